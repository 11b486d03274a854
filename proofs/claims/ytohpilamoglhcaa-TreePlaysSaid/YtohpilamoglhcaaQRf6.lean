/-
  THE DOCUMENT'S TREE; CONTRACT: Put.
-/
import Derived.Test.YtohpilamoglhcaaQRf5
namespace Go.Proofs.Ytohpilamoglhcaa
open Go.RowKit

theorem SlR.take {w : World} {A : Option Addr} {M : List Pr} (h : SlR w A M) (r : Nat) : SlR w A (M.take r) := fun hl => by
  obtain ⟨g, o, e, hlt, hc⟩ := h (fun e => hl (by rw [e]; simp))
  refine ⟨g, o, e, hlt, fun j p hp => hc j p ?_⟩
  rw [List.getElem?_take] at hp
  split at hp
  · exact hp
  · cases hp
theorem addO (g o j : Nat) : (⟨g, o, none⟩ : Addr).add j = ⟨g, o + j, none⟩ := by
  unfold Addr.add
  split
  · rename_i h
    subst h
    rfl
  · rfl
theorem SlR.cells {w : World} {ad : Addr} {M : List Pr} (h : SlR w (some ad) M) : ∀ (j : Nat) (u : Value), (M.flatMap cellsR)[j]? = some u → w.cell? (ad.add j) = some u := fun j u hu => by
  have hM : M ≠ [] := fun e => by rw [e] at hu; simp at hu
  obtain ⟨g, o, e, _, hc⟩ := h hM
  injection e with e
  subst e
  have hj : j = j / 2 * 2 + j % 2 := by omega
  have hr : j % 2 < 2 := Nat.mod_lt _ (by decide)
  rw [hj, flatR M (j / 2) (j % 2) hr] at hu
  cases hp : M[j / 2]? with
  | none => rw [hp] at hu; cases hu
  | some p =>
    rw [hp] at hu
    have h2 := hc _ p hp
    have had : (⟨g, o, none⟩ : Addr).add j = ⟨g, o + j, none⟩ := addO g o j
    rw [had]
    rcases (show j % 2 = 0 ∨ j % 2 = 1 by omega) with h3 | h3
    · rw [h3] at hu hj
      have hu2 : Value.string ⟨p.1.toArray⟩ = u := by simpa [cellsR] using hu
      rw [← hu2, show o + j = o + j / 2 * 2 by omega]
      exact h2.1
    · rw [h3] at hu hj
      have hu2 : Value.string ⟨p.2.toArray⟩ = u := by simpa [cellsR] using hu
      rw [← hu2, show o + j = o + j / 2 * 2 + 1 by omega]
      exact h2.2
theorem flat_one (M : List Pr) : ∀ u ∈ M.flatMap cellsR, u.oneCell' = true := by
  intro u hu
  obtain ⟨p, _, hp⟩ := List.mem_flatMap.1 hu
  exact cellsR_one p u hp
/-- what the document's Put leaves -/
def PutR (w : World) (L : List Pr) (k x : By) (e : Ending) (w' : World) : Prop :=
  Below w.heap.size w w' ∧ ((4096 < k.length ∨ 65536 < x.length) → e = .returned (.tuple #[.agg #[.slice none 0 0], .int .i64 100])) ∧
    (k.length ≤ 4096 → x.length ≤ 65536 → ∃ A c, e = .returned (.tuple #[.agg #[.slice A (putL L (k, x)).length c], .int .i64 0]) ∧ SlR w' A (putL L (k, x)))
set_option maxRecDepth 100000 in
set_option maxHeartbeats 4000000 in
theorem putR_no (A : Option Addr) (c : Nat) (L : List Pr) (k x : By) (w : World) (h : SlR w A L) (hl : L.length ≤ 1000000) (hn : 4096 < k.length ∨ 65536 < x.length) :
    Calls Try.prog 16 #[.agg #[.slice A L.length c], .string ⟨k.toArray⟩, .string ⟨x.toArray⟩] w fun e w' => e = .returned (.tuple #[.agg #[.slice none 0 0], .int .i64 100]) ∧ Below w.heap.size w w' := by
  obtain ⟨w1, hw1⟩ : ∃ X, (w.alloc (.cells #[.slice A L.length c] 54)).alloc (.cells #[.slice none 0 0] 54) = X := ⟨_, rfl⟩
  have hb1 : Below w.heap.size w w1 := by rw [← hw1]; exact ((Below.refl _ _).alloc (Nat.le_refl _) _).alloc (by simp) _
  have hx1 : Boxed w1 w.heap.size 54 (.slice A L.length c) := by rw [← hw1]; exact (Boxed.new w _ _).alloc _
  have hy1 : Boxed w1 (w.heap.size + 1) 54 (.slice none 0 0) := by
    rw [← hw1]
    have := Boxed.new (w.alloc (.cells #[.slice A L.length c] 54)) 54 (.slice none 0 0)
    rw [World.size_alloc] at this
    exact this
  have HB1 := Lib.hid hb1
  have HY1 := Lib.hid hy1
  have HH := Lib.hid (hasR_any A c L k w1 (h.next hb1) hl)
  have b0 := hx1.cell
  clear h hx1 hy1 hb1
  go_enter Try.func16, Try.ntmps16
  go_wp2_with fail
  try rw [hw1]
  clear hw1
  refine HH.out.mono ?_
  rintro e w2 ⟨rfl, hb2⟩
  have hy2 : Boxed w2 (w.heap.size + 1) 54 (.slice none 0 0) := (hb2.block _ HY1.out.lt).trans HY1.out
  have y0 := hy2.cell
  have y1 := hy2.frozen
  obtain ⟨w5, hw5⟩ : ∃ X, w2.setCell ⟨w.heap.size + 1, 0, none⟩ (.slice none 0 0) = X := ⟨_, rfl⟩
  have hx5 : Boxed w5 (w.heap.size + 1) 54 (.slice none 0 0) := by rw [← hw5]; exact hy2.set _
  have HB5 : Hid (Below w.heap.size w w5) := by show Below _ _ _; rw [← hw5]; exact (HB1.out.trans (hb2.mono HB1.out.size)).setCell (p := ⟨w.heap.size + 1, 0, none⟩) (Nat.le_succ _) _
  have q0 := hx5.cell
  clear hy2 hx5 hb2 b0 HH
  by_cases g1 : (4096 : Int) < (k.length : Int)
  · have g1' : decide ((4096 : Int) < (k.length : Int)) = true := decide_eq_true g1
    clear hn
    go_wp2
    try rw [hw5]
    clear y0 y1 hw5
    refine bodyPost_ret (v := .tuple #[.agg #[.slice none 0 0], .int .i64 100]) ?_ rfl ⟨rfl, HB5.out⟩
    rw [results_cell_tmp rfl]
    simp [go_sem, q0]
  · have g1' : decide ((4096 : Int) < (k.length : Int)) = false := decide_eq_false g1
    have g2 : (65536 : Int) < (x.length : Int) := by omega
    have g2' : decide ((65536 : Int) < (x.length : Int)) = true := decide_eq_true g2
    clear hn
    go_wp2
    try rw [hw5]
    clear y0 y1 hw5
    refine bodyPost_ret (v := .tuple #[.agg #[.slice none 0 0], .int .i64 100]) ?_ rfl ⟨rfl, HB5.out⟩
    rw [results_cell_tmp rfl]
    simp [go_sem, q0]
end Go.Proofs.Ytohpilamoglhcaa
