/-
  CONTRACTS over spans: mayBe, isSet, begun, turn, behind.
-/
import Derived.Test.YtecolajhahmfcaaDoorSToldP
import Derived.Test.YtecolajhahmfcaaDoorRegion
import Derived.Test.YtecolajhahmfcaaDoorOWords
import Derived.Deep.QuietTactic
import Derived.BigQuiet
import Derived.LoopTactic
import Derived.Lib.Hide
namespace Go.Proofs.YtecolajhahmfcaaDoor
open Go.RowKit

/-- one span's cells -/
structure SpAt (W : World) (b o : Nat) (s : Sp) : Prop where
  c0 : W.cell? ⟨b, o, none⟩ = some (.int .i64 s.1)
  c1 : W.cell? ⟨b, o + 1, none⟩ = some (.int .i64 s.2)
/-- a slice that reads as these spans, in blocks below B -/
def SlS (W : World) (B : Nat) (A : Option Addr) (l : List Sp) : Prop :=
  l ≠ [] → ∃ b o, A = some ⟨b, o, none⟩ ∧ b < B ∧ ∀ (j : Nat) (s : Sp), l[j]? = some s → SpAt W b (o + j * 2) s
theorem SpAt.next {W W' : World} {B b o : Nat} {s : Sp} (h : SpAt W b o s) (hb : Below B W W') (hB : b < B) : SpAt W' b o s :=
  ⟨(hb.cell (p := ⟨b, o, none⟩) hB).trans h.c0, (hb.cell (p := ⟨b, o + 1, none⟩) hB).trans h.c1⟩
theorem SlS.next {W W' : World} {B : Nat} {A : Option Addr} {l : List Sp} (h : SlS W B A l) {B' : Nat} (hb : Below B' W W') (hB : B ≤ B') : SlS W' B A l := fun hl => by
  obtain ⟨b, o, e, hlt, hc⟩ := h hl
  exact ⟨b, o, e, hlt, fun j p hp => (hc j p hp).next hb (by omega)⟩
theorem SlS.more {W : World} {B B' : Nat} {A : Option Addr} {l : List Sp} (h : SlS W B A l) (hB : B ≤ B') : SlS W B' A l := fun hl => by
  obtain ⟨b, o, e, hlt, hc⟩ := h hl
  exact ⟨b, o, e, by omega, hc⟩
theorem SlS.drewN {W : World} {B : Nat} {A : Option Addr} {l : List Sp} (h : SlS W B A l) (n : Nat) : SlS (W.drewN n) B A l := fun hl => by
  obtain ⟨b, o, e, hlt, hc⟩ := h hl
  exact ⟨b, o, e, hlt, fun j p hp => ⟨(hc j p hp).c0, (hc j p hp).c1⟩⟩
theorem SlS.at_ {W : World} {B : Nat} {A : Option Addr} {l : List Sp} (h : SlS W B A l) {j : Nat} (hj : j < l.length) : ∃ b o, A = some ⟨b, o, none⟩ ∧ b < B ∧ SpAt W b (o + j * 2) l[j] := by
  obtain ⟨b, o, e, hlt, hc⟩ := h (by intro e; rw [e] at hj; simp at hj)
  exact ⟨b, o, e, hlt, hc j _ (List.getElem?_eq_getElem hj)⟩
theorem slS_nil (W : World) (B : Nat) : SlS W B none [] := fun h => absurd rfl h
/-- where a slice's rest stands -/
def cutS (A : Option Addr) (c k : Nat) : Option Addr := if c = k then A else A.map (·.add (k * 2))
theorem SlS.tail {W : World} {B : Nat} {A : Option Addr} {s : Sp} {l : List Sp} (h : SlS W B A (s :: l)) {c : Nat} (hlc : (s :: l).length ≤ c) : SlS W B (cutS A c 1) l := fun hl => by
  obtain ⟨b, o, rfl, hlt, hc⟩ := h (by simp)
  have h1 : 1 ≤ l.length := by
    cases l with
    | nil => exact absurd rfl hl
    | cons _ _ => simp
  rw [List.length_cons] at hlc
  unfold cutS
  rw [if_neg (by omega)]
  refine ⟨b, o + 2, rfl, hlt, fun j p hp => ?_⟩
  have := hc (j + 1) p (by simpa using hp)
  rwa [show o + (j + 1) * 2 = o + 2 + j * 2 from by omega] at this
theorem sliceS_from (A : Option Addr) (n c k : Nat) (hk : k ≤ n) (w : World) : (Instr.slice 22 (.slice A n c) (some (.int .i64 (k : Int))) none none).run Tryd.prog w = .ok (.slice (cutS A c k) (n - k) (c - k)) w := by
  have hT : Tryd.prog.underlying 22 = some (.slice (Tryd.prog.elem 22)) := by kernel_rfl
  have hS : (Go.sizeOf (Tryd.prog.elem 22)).run Tryd.prog w = .ok 2 w := by kernel_rfl
  rw [run_slice_l (w := w) 22 A n c hT .i64 (k : Int) (by omega) (by omega), hS]
  simp [Result.andThen, sliced, cutS]

set_option maxHeartbeats 400000 in
theorem spMay_any (x y : Int) (w : World) :
    Calls Tryd.prog 19 #[.agg #[.int .i64 x, .int .i64 y]] w fun e w' => e = .returned (.bool (decide (x < y))) ∧ Below w.heap.size w w' := by
  go_enter Tryd.func19, Tryd.ntmps19
  go_wp2
  go_ret
  exact ⟨rfl, (Below.refl _ _).alloc (Nat.le_refl _) _⟩

end Go.Proofs.YtecolajhahmfcaaDoor
