/-
  CONTRACT of the document's own answer: ends (the instants at which something may turn).
-/
import Derived.Test.YtecolajhahmfcaaDoorSAdd
import Derived.Test.YtecolajhahmfcaaDoorSEndP
import Derived.Laws.AppendOwnNone
namespace Go.Proofs.YtecolajhahmfcaaDoor
open Go.RowKit

theorem info2 : (Tryd.prog.info? 2).map (fun i => (i.zero, i.size, i.bytes)) = some (some (.int .i64 0), 1, 8) := by kernel_rfl
def valI (n : Int) : Value := .int .i64 n
theorem valI_one (l : List Int) : ∀ u ∈ l.map valI, u.oneCell' = true := by
  intro u hu
  obtain ⟨x, _, rfl⟩ := List.mem_map.1 hu
  rfl
/-- a slice of numbers in blocks from B on, which the call has to itself -/
def OwnI (W : World) (B : Nat) (v : Value) (l : List Int) : Prop := W.ownsRow B 2 1 v l.length (l.map valI)
theorem ownI_nil (W : World) (B : Nat) : OwnI W B (.slice none 0 0) [] := World.ownsRow_nil _ _ _ _
theorem OwnI.low {W : World} {B B' : Nat} {v : Value} {l : List Int} (h : OwnI W B v l) (hB : B' ≤ B) : OwnI W B' v l := by
  refine ⟨h.1, ?_⟩
  rcases h.2 with h | ⟨g, cap, cur, h1, h2, h3⟩
  · exact .inl h
  · exact .inr ⟨g, cap, cur, h1, by omega, h3⟩
theorem OwnI.form {W : World} {B : Nat} {v : Value} {l : List Int} (h : OwnI W B v l) : (v = .slice none 0 0 ∧ l = []) ∨ ∃ g cap, v = .slice (some ⟨g, 0, none⟩) l.length cap ∧ l.length ≤ cap ∧ cap ≤ maxLen ∧ B ≤ g ∧ g < W.heap.size ∧ ∀ (j : Nat) (x : Int), l[j]? = some x → W.cell? ⟨g, j, none⟩ = some (valI x) := by
  have hr := h
  rcases h.2 with ⟨rfl, h0⟩ | ⟨g, cap, cur, rfl, hB, hg, h1, h2, _⟩
  · exact .inl ⟨rfl, List.length_eq_zero_iff.1 h0⟩
  · refine .inr ⟨g, cap, rfl, h1, h2, hB, (Array.getElem?_eq_some_iff.1 hg).1, fun j x hx => ?_⟩
    have hj : j < l.length := (List.getElem?_eq_some_iff.1 hx).1
    have hr' : W.ownsRow B 2 1 (.slice (some ⟨g, 0, none⟩) l.length cap) l.length (l.map valI) := hr
    rw [hr'.cellAt j (by omega), List.getElem?_map, hx]
    rfl
theorem OwnI.drewN {W : World} {B : Nat} {v : Value} {l : List Int} (h : OwnI W B v l) (n : Nat) : OwnI (W.drewN n) B v l := h
theorem below_ownI {W w1 : World} {B : Nat} {v : Value} {l : List Int} (h : OwnI W B v l) (hg : W.grownBy w1 v.ownBlock) (hB : B ≤ W.heap.size) : Below B W w1 :=
  (Below.refl B W).grown hg hB (fun k hk => (World.ownsRow.lt h k hk).1)
theorem OwnI.next {W W' : World} {B : Nat} {v : Value} {l : List Int} (h : OwnI W B v l) (hb : Below W.heap.size W W') : OwnI W' B v l := by
  refine World.ownsRow.kept (row := none) h ⟨hb.os, hb.tape, hb.output, hb.size, fun k hk _ => hb.block k hk⟩ ?_
  cases hv : v.ownBlock with
  | none => exact .inl rfl
  | some g => exact .inr (fun e => by cases e)
def cutI (A : Option Addr) (c k : Nat) : Option Addr := if c = k then A else A.map (·.add k)
theorem cutI_zero (A : Option Addr) (c : Nat) : cutI A c 0 = A := by
  unfold cutI
  split
  · rfl
  · cases A <;> simp [Addr.add]
theorem quoTwo (j k : Nat) (h : j / 2 = k) (hj : j ≤ 100000) (w : World) : (binOp .quo 3 (.int .i64 (j : Int)) (.int .i64 2)).run Tryd.prog w = .ok (.int .i64 (k : Int)) w := by
  have u3 := Tryd.underlying3
  have e : (j : Int) / 2 = (k : Int) := by omega
  have f : IntKind.i64.wrap (k : Int) = (k : Int) := IntWalk.i64_in _ (by omega)
  go_simp
theorem remTwo (j k : Nat) (h : j % 2 = k) (hj : j ≤ 100000) (w : World) : (binOp .rem 3 (.int .i64 (j : Int)) (.int .i64 2)).run Tryd.prog w = .ok (.int .i64 (k : Int)) w := by
  have u3 := Tryd.underlying3
  have e : (j : Int).tmod 2 = (k : Int) := by rw [Int.tmod_eq_emod_of_nonneg (by omega)]; omega
  go_simp

theorem ownI_some {W : World} {B : Nat} {v : Value} {l : List Int} (h : OwnI W B v l) (hl : l ≠ []) : ∃ g cap, v = .slice (some ⟨g, 0, none⟩) l.length cap := by
  rcases h.form with ⟨_, h⟩ | ⟨g, cap, h, _⟩
  · exact absurd h hl
  · exact ⟨g, cap, h⟩
theorem ownI_of {W : World} {B m : Nat} {v : Value} {l : List Int} (h : W.ownsRow B 2 1 v m (l.map valI)) : OwnI W B v l := by
  have h1 := h.1
  rw [List.length_map] at h1
  obtain rfl : m = l.length := by omega
  exact h
theorem ownI_app {W : World} {B m : Nat} {v : Value} {a b : List Int} (h : W.ownsRow B 2 1 v m (a.map valI ++ b.map valI)) : OwnI W B v (a ++ b) :=
  ownI_of (m := m) (by rw [List.map_append]; exact h)
theorem addI (g o j : Nat) : Addr.add ⟨g, o, none⟩ j = ⟨g, o + j, none⟩ := by
  unfold Addr.add
  split
  · subst_vars; rfl
  · rfl
theorem cutI_at {g cap k : Nat} {E : List Int} (hle : E.length ≤ cap) : ∃ o, cutI (some ⟨g, 0, none⟩) cap k = some ⟨g, o, none⟩ ∧ ∀ (j : Nat) (x : Int), (E.drop k)[j]? = some x → o + j = k + j := by
  unfold cutI
  split
  · rename_i h
    refine ⟨0, rfl, fun j x hx => ?_⟩
    rw [List.drop_eq_nil_of_le (by omega)] at hx
    simp at hx
  · refine ⟨k, ?_, fun _ _ _ => rfl⟩
    show some (Addr.add _ _) = _
    rw [addI, Nat.zero_add]
theorem newsI {W W' : World} {g B : Nat} {l : List Int} {o : Nat} (h : ∀ (j : Nat) (x : Int), l[j]? = some x → W.cell? ⟨g, o + j, none⟩ = some (valI x)) (hb : Below B W W') (hg : g < B) (j : Nat) (u : Value) (hu : (l.map valI)[j]? = some u) : W'.cell? (Addr.add ⟨g, o, none⟩ j) = some u := by
  rw [List.getElem?_map] at hu
  obtain ⟨x, hx, rfl⟩ := Option.map_eq_some_iff.1 hu
  rw [addI]
  exact (hb.cell (p := ⟨g, o + j, none⟩) hg).trans (h j x hx)
theorem lit_I (W : World) (n : Int) (j : Nat) (u : Value) (h : (List.map valI [n])[j]? = some u) : (W.alloc (.cells #[.int .i64 n] 2)).cell? (Addr.add ⟨W.heap.size, 0, none⟩ j) = some u := by
  cases j with
  | zero =>
    have : u = valI n := by simpa using h.symm
    subst this
    show World.cell? _ ⟨_, 0, none⟩ = _
    go_simp
    rfl
  | succ j => simp at h
end Go.Proofs.YtecolajhahmfcaaDoor
