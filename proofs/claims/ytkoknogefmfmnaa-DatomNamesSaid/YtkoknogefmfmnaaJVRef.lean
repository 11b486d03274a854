/-
  CONTRACT: the document's Sorted of values.
-/
import Derived.Test.YtkoknogefmfmnaaJVSl
import Derived.Test.YtkoknogefmfmnaaJDOrd
import Derived.Test.YtkoknogefmfmnaaJOrdRef
import Derived.Test.YtkoknogefmfmnaaJORefC
namespace Go.Proofs.Ytkoknogefmfmnaa
open Go.RowKit Go.Shelf

theorem putAt_lt {α : Type} {o : α → α → Int} {x : α} : ∀ {l : List α} {i : Nat}, i < putAt o x l → ∃ hi : i < l.length, o l[i] x < 0
  | [], i, h => absurd h (Nat.not_lt_zero _)
  | y :: r, i, h => by
    rw [putAt] at h
    by_cases h1 : o y x < 0
    · rw [if_pos h1] at h
      cases i with
      | zero => exact ⟨by simp, h1⟩
      | succ i =>
        obtain ⟨hi, h2⟩ := putAt_lt (o := o) (x := x) (l := r) (i := i) (by omega)
        exact ⟨by simp; omega, h2⟩
    · rw [if_neg h1] at h
      exact absurd h (Nat.not_lt_zero _)
theorem putAt_end {α : Type} {o : α → α → Int} {x : α} : ∀ {l : List α} (h : putAt o x l < l.length), ¬ o l[putAt o x l] x < 0
  | [], h => absurd h (Nat.not_lt_zero _)
  | y :: r, h => by
    by_cases h1 : o y x < 0
    · have e : putAt o x (y :: r) = putAt o x r + 1 := by rw [putAt, if_pos h1]
      have h2 : putAt o x r < r.length := by rw [e] at h; simpa using h
      have := putAt_end h2
      simpa [e] using this
    · have e : putAt o x (y :: r) = 0 := by rw [putAt, if_neg h1]
      simpa [e] using h1
theorem putG_old {α : Type} {o : α → α → Int} {x : α} {l : List α} (h : putAt o x l < l.length) (h0 : o l[putAt o x l] x = 0) : putG o l x = l := by
  unfold putG
  rw [if_pos]
  rw [List.getElem?_eq_getElem h]
  simp [h0]
theorem putG_new {α : Type} {o : α → α → Int} {x : α} {l : List α} (h0 : ∀ h : putAt o x l < l.length, o l[putAt o x l] x ≠ 0) : putG o l x = l.take (putAt o x l) ++ x :: l.drop (putAt o x l) := by
  unfold putG
  rw [if_neg]
  by_cases h : putAt o x l < l.length
  · rw [List.getElem?_eq_getElem h]
    simp [h0 h]
  · rw [List.getElem?_eq_none (by omega)]
    simp
theorem putAt_ltQ {α : Type} {o : α → α → Int} {x y : α} {l : List α} {i : Nat} (h : i < putAt o x l) (hy : l[i]? = some y) : o y x < 0 := by
  obtain ⟨hi, h2⟩ := putAt_lt h
  rw [List.getElem?_eq_getElem hi] at hy
  rw [← Option.some.inj hy]; exact h2
theorem putAt_endQ {α : Type} {o : α → α → Int} {x y : α} {l : List α} (hy : l[putAt o x l]? = some y) : ¬ o y x < 0 := by
  obtain ⟨hi, e⟩ := List.getElem?_eq_some_iff.1 hy
  rw [← e]; exact putAt_end hi
theorem putG_oldQ {α : Type} {o : α → α → Int} {x y : α} {l : List α} (hy : l[putAt o x l]? = some y) (h0 : o y x = 0) : putG o l x = l := by
  obtain ⟨hi, e⟩ := List.getElem?_eq_some_iff.1 hy
  exact putG_old hi (by rw [e]; exact h0)
theorem putG_newQ {α : Type} {o : α → α → Int} {x : α} {l : List α} (h0 : ∀ y, l[putAt o x l]? = some y → o y x ≠ 0) : putG o l x = l.take (putAt o x l) ++ x :: l.drop (putAt o x l) :=
  putG_new fun h => h0 _ (List.getElem?_eq_getElem h)
theorem putsG_take {α : Type} {o : α → α → Int} {l : List α} {j : Nat} (h : j < l.length) : putsG o (l.take (j + 1)) = putG o (putsG o (l.take j)) l[j] := by
  unfold putsG
  rw [List.take_succ_eq_append_getElem h, List.foldl_append]; rfl
theorem OwnV.form {W : World} {B : Nat} {v : Value} {l : List Vl} (h : OwnV W B v l) : ∃ A c, v = .slice A l.length c ∧ SlV W W.heap.size A l ∧ l.length ≤ c ∧ c ≤ maxLen ∧ (A = none → l.length = 0 ∧ c = 0) := by
  rcases h.2 with ⟨rfl, h0⟩ | ⟨g, cap, cur, e, r1, hgb, h1, h2, r2⟩
  · exact ⟨none, 0, by rw [h0], fun hl => absurd (List.length_eq_zero_iff.1 h0) hl, by omega, Nat.zero_le _, fun _ => ⟨h0, rfl⟩⟩
  · obtain ⟨A, c, e2, h3, h4, h5⟩ := OwnV.slv h
    refine ⟨A, c, e2, h3, h4, h5, fun hA => ?_⟩
    rw [e, hA] at e2
    cases e2
/-- what the comparing regions read -/
def CsV (N ba oa bb ob : Nat) (x y : Vl) (W : World) : Prop := VlAt W ba oa x ∧ VlAt W bb ob y ∧ (ba < N ∧ bb < N) ∧ N ≤ W.heap.size
theorem CsV.next {N ba oa bb ob : Nat} {x y : Vl} {W W' : World} (h : CsV N ba oa bb ob x y W) (hb : Below W.heap.size W W') : CsV N ba oa bb ob x y W' :=
  ⟨h.1.next hb (by have := h.2.2; omega), h.2.1.next hb (by have := h.2.2; omega), h.2.2.1, Nat.le_trans h.2.2.2 hb.size⟩
/-- where a slice's rest stands -/
def cutV (A : Option Addr) (c k : Nat) : Option Addr := if c = k then A else A.map (·.add (k * 3))
theorem sliceV_from (A : Option Addr) (n c k : Nat) (hk : k ≤ n) (_hc : n ≤ c) (w : World) : (Instr.slice 22 (.slice A n c) (some (.int .i64 (k : Int))) none none).run Try.prog w = .ok (.slice (cutV A c k) (n - k) (c - k)) w := by
  have hT : Try.prog.underlying 22 = some (.slice (Try.prog.elem 22)) := by kernel_rfl
  have hS : (Go.sizeOf (Try.prog.elem 22)).run Try.prog w = .ok 3 w := by kernel_rfl
  rw [run_slice_l (w := w) 22 A n c hT .i64 (k : Int) (by omega) (by omega), hS]
  simp [Result.andThen, sliced, cutV]
theorem SlV.drop {W : World} {B : Nat} {A : Option Addr} {l : List Vl} (h : SlV W B A l) {c : Nat} (k : Nat) (hlc : l.length ≤ c) : SlV W B (cutV A c k) (l.drop k) := fun hl => by
  have hk : k < l.length := by
    rcases Nat.lt_or_ge k l.length with h1 | h1
    · exact h1
    · exact absurd (List.drop_of_length_le h1) hl
  obtain ⟨b, o, rfl, hlt, hc⟩ := h (fun e => by rw [e] at hk; exact absurd hk (Nat.not_lt_zero _))
  unfold cutV
  rw [if_neg (by omega)]
  refine ⟨b, o + k * 3, by show some (Addr.add ⟨b, o, none⟩ (k * 3)) = _; rw [addI], hlt, fun j p hp => ?_⟩
  rw [List.getElem?_drop] at hp
  have := hc (k + j) p hp
  rwa [show o + (k + j) * 3 = o + k * 3 + j * 3 from by omega] at this
theorem SlV.take {W : World} {B : Nat} {A : Option Addr} {l : List Vl} (h : SlV W B A l) (k : Nat) : SlV W B A (l.take k) := fun hl => by
  obtain ⟨b, o, e, hlt, hc⟩ := h (fun e => hl (by rw [e]; simp))
  refine ⟨b, o, e, hlt, fun j p hp => hc j p ?_⟩
  rw [List.getElem?_take] at hp
  split at hp
  · exact hp
  · cases hp
end Go.Proofs.Ytkoknogefmfmnaa
