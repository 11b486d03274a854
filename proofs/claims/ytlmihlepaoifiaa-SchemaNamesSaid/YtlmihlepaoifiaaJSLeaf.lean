/-
  CONTRACTS over spans: mayBe, isSet, begun, turn, behind.
-/
import Derived.Deep.QuietTactic
import Derived.BigQuiet
import Derived.LoopTactic
import Derived.Lib.Hide
import Derived.Test.YtlmihlepaoifiaaJSToldP
import Derived.Test.YtlmihlepaoifiaaJRegion
import Derived.Test.YtlmihlepaoifiaaJOWords
namespace Go.Proofs.Ytlmihlepaoifiaa
open Go.RowKit

/-- one span's cells -/
structure SpAt (W : World) (b o : Nat) (s : Sp) : Prop where
  c0 : W.cell? ⟨b, o, none⟩ = some (.int .i64 s.1)
  c1 : W.cell? ⟨b, o + 1, none⟩ = some (.int .i64 s.2)
/-- a slice that reads as these spans, in blocks below B -/
def SlS (W : World) (B : Nat) (A : Option Addr) (l : List Sp) : Prop :=
  l ≠ [] → ∃ b o, A = some ⟨b, o, none⟩ ∧ b < B ∧ ∀ (j : Nat) (s : Sp), l[j]? = some s → SpAt W b (o + j * 2) s
theorem SpAt.next {W W' : World} {B b o : Nat} {s : Sp} (h : SpAt W b o s) (hb : Below B W W') (hB : b < B) : SpAt W' b o s :=
  ⟨(hb.cell (p := ⟨b, o, none⟩) hB).trans h.c0, (hb.cell (p := ⟨b, o + 1, none⟩) hB).trans h.c1⟩
theorem SlS.next {W W' : World} {B : Nat} {A : Option Addr} {l : List Sp} (h : SlS W B A l) {B' : Nat} (hb : Below B' W W') (hB : B ≤ B') : SlS W' B A l := fun hl => by
  obtain ⟨b, o, e, hlt, hc⟩ := h hl
  exact ⟨b, o, e, hlt, fun j p hp => (hc j p hp).next hb (by omega)⟩
theorem SlS.more {W : World} {B B' : Nat} {A : Option Addr} {l : List Sp} (h : SlS W B A l) (hB : B ≤ B') : SlS W B' A l := fun hl => by
  obtain ⟨b, o, e, hlt, hc⟩ := h hl
  exact ⟨b, o, e, by omega, hc⟩
theorem SlS.drewN {W : World} {B : Nat} {A : Option Addr} {l : List Sp} (h : SlS W B A l) (n : Nat) : SlS (W.drewN n) B A l := fun hl => by
  obtain ⟨b, o, e, hlt, hc⟩ := h hl
  exact ⟨b, o, e, hlt, fun j p hp => ⟨(hc j p hp).c0, (hc j p hp).c1⟩⟩
theorem SlS.at_ {W : World} {B : Nat} {A : Option Addr} {l : List Sp} (h : SlS W B A l) {j : Nat} (hj : j < l.length) : ∃ b o, A = some ⟨b, o, none⟩ ∧ b < B ∧ SpAt W b (o + j * 2) l[j] := by
  obtain ⟨b, o, e, hlt, hc⟩ := h (by intro e; rw [e] at hj; simp at hj)
  exact ⟨b, o, e, hlt, hc j _ (List.getElem?_eq_getElem hj)⟩
/-- where a slice's rest stands -/
def cutS (A : Option Addr) (c k : Nat) : Option Addr := if c = k then A else A.map (·.add (k * 2))
theorem SlS.tail {W : World} {B : Nat} {A : Option Addr} {s : Sp} {l : List Sp} (h : SlS W B A (s :: l)) {c : Nat} (hlc : (s :: l).length ≤ c) : SlS W B (cutS A c 1) l := fun hl => by
  obtain ⟨b, o, rfl, hlt, hc⟩ := h (by simp)
  have h1 : 1 ≤ l.length := by
    cases l with
    | nil => exact absurd rfl hl
    | cons _ _ => simp
  rw [List.length_cons] at hlc
  unfold cutS
  rw [if_neg (by omega)]
  refine ⟨b, o + 2, rfl, hlt, fun j p hp => ?_⟩
  have := hc (j + 1) p (by simpa using hp)
  rwa [show o + (j + 1) * 2 = o + 2 + j * 2 from by omega] at this
theorem sliceS_from (A : Option Addr) (n c k : Nat) (hk : k ≤ n) (w : World) : (Instr.slice 28 (.slice A n c) (some (.int .i64 (k : Int))) none none).run Try.prog w = .ok (.slice (cutS A c k) (n - k) (c - k)) w := by
  have hT : Try.prog.underlying 28 = some (.slice (Try.prog.elem 28)) := by kernel_rfl
  have hS : (Go.sizeOf (Try.prog.elem 28)).run Try.prog w = .ok 2 w := by kernel_rfl
  rw [run_slice_l (w := w) 28 A n c hT .i64 (k : Int) (by omega) (by omega), hS]
  simp [Result.andThen, sliced, cutS]

set_option maxHeartbeats 400000 in
theorem spMay_any (x y : Int) (w : World) :
    Calls Try.prog 81 #[.agg #[.int .i64 x, .int .i64 y]] w fun e w' => e = .returned (.bool (decide (x < y))) ∧ Below w.heap.size w w' := by
  go_enter Try.func81, Try.ntmps81
  go_wp2
  go_ret
  exact ⟨rfl, (Below.refl _ _).alloc (Nat.le_refl _) _⟩

set_option maxHeartbeats 1000000 in
theorem begun_any (A : Option Addr) (c : Nat) (l : List Sp) (t : Int) (w : World) (B : Nat) (hs : SlS w B A l) :
    Calls Try.prog 83 #[.slice A l.length c, .int .i64 t] w fun e w' => e = .returned (.bool (begunB l t)) ∧ w = w' := by
  cases l with
  | nil =>
    have h0 : ¬ (0 : Int) < (([] : List Sp).length : Int) := by simp
    go_enter Try.func83, Try.ntmps83
    go_wp2
    go_ret
    exact ⟨rfl, rfl⟩
  | cons s r =>
    obtain ⟨b, o, rfl, _, hp⟩ := hs.at_ (j := 0) (by simp)
    have c0 : w.cell? ⟨b, o, none⟩ = some (.int .i64 s.1) := by have := hp.c0; simpa using this
    have h0 : (0 : Int) < ((r.length + 1 : Nat) : Int) := by omega
    show Calls _ _ #[.slice _ (r.length + 1) _, _] _ _
    clear hs hp
    go_enter Try.func83, Try.ntmps83
    go_wp2
    go_ret
    exact ⟨rfl, rfl⟩

set_option maxHeartbeats 1000000 in
theorem turn_any (A : Option Addr) (c : Nat) (l : List Sp) (t : Int) (w : World) (B : Nat) (hs : SlS w B A l) :
    Calls Try.prog 84 #[.slice A l.length c, .int .i64 t] w fun e w' => e = .returned (.int .i64 (turnI l t)) ∧ w = w' := by
  cases l with
  | nil =>
    go_enter Try.func84, Try.ntmps84
    go_wp2
    go_ret
    exact ⟨rfl, rfl⟩
  | cons s r =>
    have HS := Lib.hid hs
    obtain ⟨b, o, rfl, _, hp⟩ := hs.at_ (j := 0) (by simp)
    have c0 : w.cell? ⟨b, o, none⟩ = some (.int .i64 s.1) := by have := hp.c0; simpa using this
    have c1 : w.cell? ⟨b, o + 1, none⟩ = some (.int .i64 s.2) := by have := hp.c1; simpa using this
    have h0 : ¬ ((r.length + 1 : Nat) : Int) = 0 := by omega
    clear hs hp
    show Calls _ _ #[.slice _ (r.length + 1) _, _] _ _
    have hb := begun_any (some ⟨b, o, none⟩) c (s :: r) t w B HS.out
    rw [List.length_cons] at hb
    by_cases h1 : s.1 ≤ t
    · have e1 : begunB (s :: r) t = true := decide_eq_true h1
      have e2 : Hid (turnI (s :: r) t = s.2) := by show _ = _; simp only [turnI]; rw [if_pos h1]
      rw [e1] at hb
      have HBB := Lib.hid hb
      clear e1 hb h1
      go_enter Try.func84, Try.ntmps84
      go_wp2_with fail
      refine HBB.out.mono ?_
      rintro e w' ⟨rfl, rfl⟩
      go_wp2
      go_ret
      exact ⟨by rw [e2.out]; rfl, rfl⟩
    · have e1 : begunB (s :: r) t = false := decide_eq_false h1
      have e2 : Hid (turnI (s :: r) t = s.1) := by show _ = _; simp only [turnI]; rw [if_neg h1]
      rw [e1] at hb
      have HBB := Lib.hid hb
      clear e1 hb h1
      go_enter Try.func84, Try.ntmps84
      go_wp2_with fail
      refine HBB.out.mono ?_
      rintro e w' ⟨rfl, rfl⟩
      go_wp2
      go_ret
      exact ⟨by rw [e2.out]; rfl, rfl⟩

set_option maxHeartbeats 1000000 in
theorem behind_any (A : Option Addr) (c : Nat) (l : List Sp) (t : Int) (w : World) (B : Nat) (hs : SlS w B A l) (hlc : l.length ≤ c) (hcm : c ≤ maxLen) :
    Calls Try.prog 85 #[.slice A l.length c, .int .i64 t] w fun e w' => (∃ A' c', e = .returned (.slice A' (behindL l t).length c') ∧ SlS w B A' (behindL l t) ∧ (behindL l t).length ≤ c' ∧ c' ≤ maxLen) ∧ w = w' := by
  have HCM := Lib.hid hcm
  clear hcm
  cases l with
  | nil =>
    have h0 : ¬ (0 : Int) < (([] : List Sp).length : Int) := by simp
    go_enter Try.func85, Try.ntmps85
    go_wp2
    go_ret
    exact ⟨⟨A, c, rfl, hs, by simp [behindL], HCM.out⟩, rfl⟩
  | cons s r =>
    have HS := Lib.hid hs
    have HLC := Lib.hid hlc
    obtain ⟨b, o, rfl, _, hp⟩ := hs.at_ (j := 0) (by simp)
    have c1 : w.cell? ⟨b, o + 1, none⟩ = some (.int .i64 s.2) := by have := hp.c1; simpa using this
    have h0 : (0 : Int) < ((r.length + 1 : Nat) : Int) := by omega
    have hsl : ∀ w : World, (Instr.slice 28 (.slice (some ⟨b, o, none⟩) (r.length + 1) c) (some (.int .i64 1)) none none).run Try.prog w = .ok (.slice (cutS (some ⟨b, o, none⟩) c 1) r.length (c - 1)) w := fun w => sliceS_from _ _ _ 1 (by omega) w
    clear hs hp hlc
    show Calls _ _ #[.slice _ (r.length + 1) _, _] _ _
    by_cases h1 : s.2 ≤ t
    · have e2 : behindL (s :: r) t = r := by simp only [behindL]; rw [if_pos h1]
      rw [e2]
      clear e2
      go_enter Try.func85, Try.ntmps85
      go_wp2
      go_ret
      exact ⟨⟨_, c - 1, rfl, HS.out.tail HLC.out, by have := HLC.out; rw [List.length_cons] at this; omega, by have := HCM.out; omega⟩, rfl⟩
    · have e2 : behindL (s :: r) t = s :: r := by simp only [behindL]; rw [if_neg h1]
      rw [e2]
      clear e2
      go_enter Try.func85, Try.ntmps85
      go_wp2
      go_ret
      exact ⟨⟨_, c, rfl, HS.out, HLC.out, HCM.out⟩, rfl⟩
end Go.Proofs.Ytlmihlepaoifiaa
