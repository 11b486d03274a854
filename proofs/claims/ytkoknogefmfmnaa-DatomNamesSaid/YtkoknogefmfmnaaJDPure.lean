import Derived.Test.YtkoknogefmfmnaaJORdVal
import Derived.Test.YtkoknogefmfmnaaJOKeyW
import Derived.OwnWalkIn
import Derived.RangeFuncNested
import Derived.Test.YtkoknogefmfmnaaJLeaf
/-
  CONTRACT: readPart (the program's).
-/
namespace Go.Proofs.Ytkoknogefmfmnaa
open Go.RowKit Go.Shelf

/-- a part as a whole -/
def partV (p : PartP) : Value := .agg #[.bool p.v, .int .i64 p.n, .int .i64 p.k, .int .i64 p.m, .string p.s]
/-- What readPart answers. -/
def PartRd (W : World) (B : Nat) (v : Bool) (l : List UInt8) (e : Ending) (w' : World) : Prop :=
  ((∃ p t r, partR v l = some (p, t) ∧ e = .returned (.tuple #[partV p, r, .bool true]) ∧ Rest w' B r t) ∨
  (partR v l = none ∧ ∃ p r, e = .returned (.tuple #[partV p, r, .bool false]))) ∧ Below W.heap.size W w'
theorem PartBox.fz {W : World} {b : Nat} {p : PartP} (h : PartBox W b p) (j : Nat) : W.frozen? ⟨b, j, none⟩ = false := by unfold PartBox at h; simp [World.frozen?, h]
theorem PartBox.row {W : World} {b : Nat} {p : PartP} (h : PartBox W b p) (cs : Array Value) : (W.setRow b cs).heap[b]? = some (.cells cs 45 (0, 0)) := setRow_heap _ _ _ _ _ _ h
theorem PartBox.set {W : World} {b : Nat} {p : PartP} (h : PartBox W b p) (q : PartP) : PartBox (((((W.setCell ⟨b, 0, none⟩ (.bool q.v)).setCell ⟨b, 1, none⟩ (.int .i64 q.n)).setCell ⟨b, 2, none⟩ (.int .i64 q.k)).setCell ⟨b, 3, none⟩ (.int .i64 q.m)).setCell ⟨b, 4, none⟩ (.string q.s)) b q := by
  have e0 := setCell_eq_setRow W b 0 _ _ (0, 0) (.bool q.v) h
  rw [e0]
  have h0 := h.row ((#[Value.bool p.v, .int .i64 p.n, .int .i64 p.k, .int .i64 p.m, .string p.s] : Array Value).setIfInBounds 0 (.bool q.v))
  have e1 := setCell_eq_setRow _ b 1 _ _ (0, 0) (.int .i64 q.n) h0
  rw [e1, setRow_setRow]
  have h1 := h.row (((#[Value.bool p.v, .int .i64 p.n, .int .i64 p.k, .int .i64 p.m, .string p.s] : Array Value).setIfInBounds 0 (.bool q.v)).setIfInBounds 1 (.int .i64 q.n))
  have e2 := setCell_eq_setRow _ b 2 _ _ (0, 0) (.int .i64 q.k) h1
  rw [e2, setRow_setRow]
  have h2 := h.row ((((#[Value.bool p.v, .int .i64 p.n, .int .i64 p.k, .int .i64 p.m, .string p.s] : Array Value).setIfInBounds 0 (.bool q.v)).setIfInBounds 1 (.int .i64 q.n)).setIfInBounds 2 (.int .i64 q.k))
  have e3 := setCell_eq_setRow _ b 3 _ _ (0, 0) (.int .i64 q.m) h2
  rw [e3, setRow_setRow]
  have h3 := h.row (((((#[Value.bool p.v, .int .i64 p.n, .int .i64 p.k, .int .i64 p.m, .string p.s] : Array Value).setIfInBounds 0 (.bool q.v)).setIfInBounds 1 (.int .i64 q.n)).setIfInBounds 2 (.int .i64 q.k)).setIfInBounds 3 (.int .i64 q.m))
  have e4 := setCell_eq_setRow _ b 4 _ _ (0, 0) (.string q.s) h3
  rw [e4, setRow_setRow]
  have h4 := h.row ((((((#[Value.bool p.v, .int .i64 p.n, .int .i64 p.k, .int .i64 p.m, .string p.s] : Array Value).setIfInBounds 0 (.bool q.v)).setIfInBounds 1 (.int .i64 q.n)).setIfInBounds 2 (.int .i64 q.k)).setIfInBounds 3 (.int .i64 q.m)).setIfInBounds 4 (.string q.s))
  exact h4
theorem below_set5 {W : World} {B b : Nat} (hb : B ≤ b) (u0 u1 u2 u3 u4 : Value) {w : World} (h : Below B w W) : Below B w (((((W.setCell ⟨b, 0, none⟩ u0).setCell ⟨b, 1, none⟩ u1).setCell ⟨b, 2, none⟩ u2).setCell ⟨b, 3, none⟩ u3).setCell ⟨b, 4, none⟩ u4) :=
  ((((h.setCell (p := ⟨b, 0, none⟩) hb _).setCell (p := ⟨b, 1, none⟩) hb _).setCell (p := ⟨b, 2, none⟩) hb _).setCell (p := ⟨b, 3, none⟩) hb _).setCell (p := ⟨b, 4, none⟩) hb _
def zeroP : PartP := ⟨false, 0, 0, 0, ⟨#[]⟩⟩

set_option maxRecDepth 100000 in
set_option maxHeartbeats 2000000 in
theorem readPart_num (A : Option Addr) (cp : Nat) (l : List UInt8) (W : World) (B : Nat) (hBW : B ≤ W.heap.size) (hs : SlB W B A l) (hlc : l.length ≤ cp) (hc : cp ≤ maxLen) :
    Calls Try.prog 98 #[.slice A l.length cp, .bool false] W (PartRd W B false l) := by
  have HR0 := Lib.hid (partBox_new W zeroP)
  obtain ⟨w1, hw1⟩ : ∃ w1, W.alloc (.cells #[.bool false, .int .i64 0, .int .i64 0, .int .i64 0, .string ⟨#[]⟩] 45) = w1 := ⟨_, rfl⟩
  have HR1 : Hid (PartBox w1 W.heap.size zeroP) := by rw [← hw1]; exact HR0.out
  have HB1 : Hid (Below W.heap.size W w1) := by rw [← hw1]; exact (Below.refl _ _).alloc (Nat.le_refl _) _
  have HLT : Hid (W.heap.size < w1.heap.size) := by show _ < _; rw [← hw1]; simp
  have HW1 := Lib.hid hw1
  clear hw1 HR0
  go_enter Try.func98, Try.ntmps98
  go_upto_region 1 with (fail)
  rw [HW1.out]
  go_wp2_with fail
  refine (readNumber_any A cp l w1 B (Nat.le_trans hBW HB1.out.size) (hs.next HB1.out hBW) hlc hc).mono ?_
  rintro e w3 (⟨hT, ⟨r, rfl, hr⟩, hb⟩ | ⟨hT, rfl, hb⟩)
  · have hx := HR1.out.next hb HLT.out
    have g0 := hx.cell 0
    have g1 := hx.cell 1
    have g2 := hx.cell 2
    have g3 := hx.cell 3
    have g4 := hx.cell 4
    simp at g0 g1 g2 g3 g4
    have z0 := hx.fz 0
    have z1 := hx.fz 1
    have z2 := hx.fz 2
    have z3 := hx.fz 3
    have z4 := hx.fz 4
    have HX := Lib.hid (hx.set ⟨false, numR l, 0, 0, ⟨#[]⟩⟩)
    have HB3 := Lib.hid (HB1.out.trans (hb.mono HB1.out.size))
    have HR := Lib.hid hr
    have HT := Lib.hid hT
    clear hx hb hr hT
    go_wp2
    refine bodyPost_ret (v := .tuple #[partV ⟨false, numR l, 0, 0, ⟨#[]⟩⟩, r, .bool true]) ?_ rfl ?_
    · rw [results_cell_tmp2 rfl]
      have h0 := HX.out.cell 0
      have h1 := HX.out.cell 1
      have h2 := HX.out.cell 2
      have h3 := HX.out.cell 3
      have h4 := HX.out.cell 4
      simp at h0 h1 h2 h3 h4
      unfold partV
      go_simp
    · refine ⟨.inl ⟨_, _, r, (by unfold partR; rw [if_neg (by decide), if_pos HT.out]), rfl, ?_⟩, below_set5 (Nat.le_refl _) _ _ _ _ _ HB3.out⟩
      exact HR.out.next (below_set5 (Nat.le_refl _) _ _ _ _ _ (Below.refl W.heap.size _)) hBW
  · have hx := HR1.out.next hb HLT.out
    have g0 := hx.cell 0
    have g1 := hx.cell 1
    have g2 := hx.cell 2
    have g3 := hx.cell 3
    have g4 := hx.cell 4
    simp at g0 g1 g2 g3 g4
    have z0 := hx.fz 0
    have z1 := hx.fz 1
    have z2 := hx.fz 2
    have z3 := hx.fz 3
    have z4 := hx.fz 4
    have HX := Lib.hid (hx.set zeroP)
    have HB3 := Lib.hid (HB1.out.trans (hb.mono HB1.out.size))
    have HT := Lib.hid hT
    clear hx hb hT
    go_wp2
    refine bodyPost_ret (v := .tuple #[partV zeroP, .slice none 0 0, .bool false]) ?_ rfl ?_
    · rw [results_cell_tmp2 rfl]
      have h0 := HX.out.cell 0
      have h1 := HX.out.cell 1
      have h2 := HX.out.cell 2
      have h3 := HX.out.cell 3
      have h4 := HX.out.cell 4
      simp [zeroP] at h0 h1 h2 h3 h4
      unfold partV zeroP
      go_simp
    · exact ⟨.inr ⟨(by unfold partR; rw [if_neg (by decide), if_neg (by have := HT.out; omega)]), _, _, rfl⟩, below_set5 (Nat.le_refl _) _ _ _ _ _ HB3.out⟩
set_option maxRecDepth 100000 in
set_option maxHeartbeats 2000000 in
theorem readPart_val (A : Option Addr) (cp : Nat) (l : List UInt8) (W : World) (B : Nat) (hBW : B ≤ W.heap.size) (hs : SlB W B A l) (hlc : l.length ≤ cp) (hc : cp ≤ maxLen) (hl : l.length ≤ 10000) :
    Calls Try.prog 98 #[.slice A l.length cp, .bool true] W (PartRd W B true l) := by
  have HR0 := Lib.hid (partBox_new W zeroP)
  obtain ⟨w1, hw1⟩ : ∃ w1, W.alloc (.cells #[.bool false, .int .i64 0, .int .i64 0, .int .i64 0, .string ⟨#[]⟩] 45) = w1 := ⟨_, rfl⟩
  have HR1 : Hid (PartBox w1 W.heap.size zeroP) := by rw [← hw1]; exact HR0.out
  have HB1 : Hid (Below W.heap.size W w1) := by rw [← hw1]; exact (Below.refl _ _).alloc (Nat.le_refl _) _
  have HLT : Hid (W.heap.size < w1.heap.size) := by show _ < _; rw [← hw1]; simp
  have HW1 := Lib.hid hw1
  clear hw1 HR0
  go_enter Try.func98, Try.ntmps98
  go_upto_region 1 with (fail)
  rw [HW1.out]
  go_wp2_with fail
  refine (readValue_any A cp l w1 B (Nat.le_trans hBW HB1.out.size) (hs.next HB1.out hBW) hlc hc hl).mono ?_
  rintro e w3 ⟨h, hb⟩
  unfold valV at h
  rcases h with ⟨k, n, s, t, r, hT, rfl, hr⟩ | ⟨hT, k, n, s, r, rfl⟩
  · obtain ⟨w4, hw4⟩ : ∃ w4, w3.alloc (.cells #[.int .i64 k, .int .i64 n, .string ⟨s.toArray⟩] 24) = w4 := ⟨_, rfl⟩
    have HB34 : Hid (Below w3.heap.size w3 w4) := by rw [← hw4]; exact (Below.refl _ _).alloc (Nat.le_refl _) _
    have HV4 : Hid (ValAt w4 w3.heap.size k n ⟨s.toArray⟩) := by rw [← hw4]; exact valAt_new w3 k n ⟨s.toArray⟩
    have hx := (HR1.out.next hb HLT.out).next HB34.out (Nat.lt_of_lt_of_le HLT.out hb.size)
    have g0 := hx.cell 0
    have g1 := hx.cell 1
    have g2 := hx.cell 2
    have g3 := hx.cell 3
    have g4 := hx.cell 4
    simp at g0 g1 g2 g3 g4
    have z0 := hx.fz 0
    have z1 := hx.fz 1
    have z2 := hx.fz 2
    have z3 := hx.fz 3
    have z4 := hx.fz 4
    have k0 := HV4.out.c0
    have k1 := HV4.out.c1
    have k2 := HV4.out.c2
    have HX := Lib.hid (hx.set ⟨true, 0, k, n, ⟨s.toArray⟩⟩)
    have HB3 := Lib.hid (HB1.out.trans ((hb.mono HB1.out.size).trans (HB34.out.mono (Nat.le_trans HB1.out.size hb.size))))
    have HW4 := Lib.hid hw4
    have hbz : W.heap.size ≤ w3.heap.size := Nat.le_trans HB1.out.size hb.size
    have HR := Lib.hid (hr.next HB34.out (Nat.le_trans hBW hbz))
    have HT := Lib.hid hT
    clear hx hb hw4 hr hT
    go_upto_region 3 with (fail)
    rw [HW4.out]
    go_wp2
    refine bodyPost_ret (v := .tuple #[partV ⟨true, 0, k, n, ⟨s.toArray⟩⟩, r, .bool true]) ?_ rfl ?_
    · rw [results_cell_tmp2 rfl]
      have h0 := HX.out.cell 0
      have h1 := HX.out.cell 1
      have h2 := HX.out.cell 2
      have h3 := HX.out.cell 3
      have h4 := HX.out.cell 4
      simp at h0 h1 h2 h3 h4
      unfold partV
      go_simp
    · refine ⟨.inl ⟨_, _, r, (by unfold partR; rw [if_pos rfl, HT.out]; rfl), rfl, ?_⟩, below_set5 (Nat.le_refl _) _ _ _ _ _ HB3.out⟩
      exact HR.out.next (below_set5 (Nat.le_refl _) _ _ _ _ _ (Below.refl W.heap.size _)) hBW
  · obtain ⟨w4, hw4⟩ : ∃ w4, w3.alloc (.cells #[.int .i64 k, .int .i64 n, .string s] 24) = w4 := ⟨_, rfl⟩
    have HB34 : Hid (Below w3.heap.size w3 w4) := by rw [← hw4]; exact (Below.refl _ _).alloc (Nat.le_refl _) _
    have HV4 : Hid (ValAt w4 w3.heap.size k n s) := by rw [← hw4]; exact valAt_new w3 k n s
    have hx := (HR1.out.next hb HLT.out).next HB34.out (Nat.lt_of_lt_of_le HLT.out hb.size)
    have g0 := hx.cell 0
    have g1 := hx.cell 1
    have g2 := hx.cell 2
    have g3 := hx.cell 3
    have g4 := hx.cell 4
    simp at g0 g1 g2 g3 g4
    have z0 := hx.fz 0
    have z1 := hx.fz 1
    have z2 := hx.fz 2
    have z3 := hx.fz 3
    have z4 := hx.fz 4
    have k0 := HV4.out.c0
    have k1 := HV4.out.c1
    have k2 := HV4.out.c2
    have HX := Lib.hid (hx.set ⟨true, 0, k, n, s⟩)
    have HB3 := Lib.hid (HB1.out.trans ((hb.mono HB1.out.size).trans (HB34.out.mono (Nat.le_trans HB1.out.size hb.size))))
    have HW4 := Lib.hid hw4
    have hbz : W.heap.size ≤ w3.heap.size := Nat.le_trans HB1.out.size hb.size
    have HT := Lib.hid hT
    clear hx hb hw4 hT
    go_upto_region 3 with (fail)
    rw [HW4.out]
    go_wp2
    refine bodyPost_ret (v := .tuple #[partV ⟨true, 0, k, n, s⟩, r, .bool false]) ?_ rfl ?_
    · rw [results_cell_tmp2 rfl]
      have h0 := HX.out.cell 0
      have h1 := HX.out.cell 1
      have h2 := HX.out.cell 2
      have h3 := HX.out.cell 3
      have h4 := HX.out.cell 4
      simp at h0 h1 h2 h3 h4
      unfold partV
      go_simp
    · exact ⟨.inr ⟨(by unfold partR; rw [if_pos rfl, HT.out]; rfl), _, _, rfl⟩, below_set5 (Nat.le_refl _) _ _ _ _ _ HB3.out⟩

theorem readPart_any (v : Bool) (A : Option Addr) (cp : Nat) (l : List UInt8) (W : World) (B : Nat) (hBW : B ≤ W.heap.size) (hs : SlB W B A l) (hlc : l.length ≤ cp) (hc : cp ≤ maxLen) (hl : l.length ≤ 10000) :
    Calls Try.prog 98 #[.slice A l.length cp, .bool v] W (PartRd W B v l) := by
  cases v
  · exact readPart_num A cp l W B hBW hs hlc hc
  · exact readPart_val A cp l W B hBW hs hlc hc hl
end Go.Proofs.Ytkoknogefmfmnaa

/-
  CONTRACT: told (the program's iterator over parts).
-/
namespace Go.Proofs.Ytkoknogefmfmnaa
open Go.RowKit Go.Shelf
attribute [local go_sem] Oper.semAt_some

theorem Rest.back {W W' : World} {B B' : Nat} {v : Value} {l : List UInt8} (h : Rest W' B v l) (hb : Below B' W W') (hB : B ≤ B') : Rest W B v l := by
  obtain ⟨A, c, e, hs, h1, h2⟩ := h
  refine ⟨A, c, e, fun hl => ?_, h1, h2⟩
  obtain ⟨a, ea, hlt, hc⟩ := hs hl
  exact ⟨a, ea, hlt, fun j x hx => (hb.cell (p := a.add j) (by rw [add_block]; omega)).symm.trans (hc j x hx)⟩
theorem abides_at {α : Type} {B : Nat} {J : List α → World → Prop} (hJ : AbidesFrom B J) {p : List α} {w w' : World} (h : J p w) (hb : Below w.heap.size w w') : J p w' :=
  hJ p w w' none h ⟨hb.os, hb.tape, hb.output, hb.size, fun k hk _ => hb.block k hk⟩ (fun r e => by cases e)

/-- a part, and what stands behind it -/
structure Tl (w : World) (B : Nat) where
  p : PartP
  t : List UInt8
  r : Value
  ok : Rest w B r t
def Tl.pt {w : World} {B : Nat} (x : Tl w B) : PartP × List UInt8 := (x.p, x.t)
/-- the parts that bytes begin with -/
def tellL : List Bool → List UInt8 → List (PartP × List UInt8)
  | [], _ => []
  | v :: ks, b => match partR v b with
    | none => []
    | some (p, t) => (p, t) :: tellL ks t
theorem txtR_rest : ∀ {l s u : List UInt8}, txtR l = some (s, u) → u.length ≤ l.length
  | [], _, _, h => by cases h
  | [_], _, _, h => by cases h
  | c :: d :: r, s, u, h => by
    rw [txtR] at h
    by_cases hc : c = 0
    · rw [if_pos hc] at h
      by_cases h1 : d = 1
      · rw [if_pos h1] at h
        cases h
        simp; omega
      · rw [if_neg h1] at h
        by_cases h2 : d = 255
        · rw [if_pos h2] at h
          cases hr : txtR r with
          | none => rw [hr] at h; cases h
          | some p =>
            obtain ⟨s', u'⟩ := p
            rw [hr] at h
            have := txtR_rest hr
            cases h
            simp; omega
        · rw [if_neg h2] at h; cases h
    · rw [if_neg hc] at h
      cases hr : txtR (d :: r) with
      | none => rw [hr] at h; cases h
      | some p =>
        obtain ⟨s', u'⟩ := p
        rw [hr] at h
        have := txtR_rest hr
        cases h
        simp at this ⊢; omega
theorem oneR_rest {l t : List UInt8} {x : Int × Int × List UInt8} (h : oneR l = some (x, t)) : t.length ≤ l.length := by
  cases l with
  | nil => cases h
  | cons c r =>
    simp only [oneR] at h
    by_cases h2 : c = 2
    · rw [if_pos h2] at h
      cases r with
      | nil => cases h
      | cons d u =>
        simp only at h
        split at h
        · cases h; simp; omega
        · cases h
    · rw [if_neg h2] at h
      by_cases h1 : c = 1 ∨ c = 5 ∨ c = 6
      · rw [if_pos h1] at h
        split at h
        · cases h; simp; omega
        · cases h
      · rw [if_neg h1] at h
        by_cases h3 : c = 3 ∨ c = 4 ∨ c = 7
        · rw [if_pos h3] at h
          cases hr : txtR r with
          | none => rw [hr] at h; cases h
          | some p =>
            obtain ⟨s, u⟩ := p
            rw [hr] at h
            simp only at h
            have := txtR_rest hr
            split at h
            · cases h; simp; omega
            · cases h
        · rw [if_neg h3] at h; cases h
theorem partR_rest {v : Bool} {l t : List UInt8} {p : PartP} (h : partR v l = some (p, t)) : t.length ≤ l.length := by
  unfold partR at h
  split at h
  · cases ho : oneR l with
    | none => rw [ho] at h; cases h
    | some x =>
      obtain ⟨x, u⟩ := x
      rw [ho] at h
      cases h
      exact oneR_rest ho
  · split at h
    · cases h; simp
    · cases h

/-- a slice that reads as these kinds -/
def SlK (W : World) (B : Nat) (A : Option Addr) (l : List Bool) : Prop :=
  l ≠ [] → ∃ a, A = some a ∧ a.block < B ∧ ∀ (j : Nat) (x : Bool), l[j]? = some x → W.cell? (a.add j) = some (.bool x)
theorem SlK.next {W W' : World} {B : Nat} {A : Option Addr} {l : List Bool} (h : SlK W B A l) {B' : Nat} (hb : Below B' W W') (hB : B ≤ B') : SlK W' B A l := fun hl => by
  obtain ⟨a, e, hlt, hc⟩ := h hl
  exact ⟨a, e, hlt, fun j x hx => (hb.cell (p := a.add j) (by rw [add_block]; omega)).trans (hc j x hx)⟩

/-- One round of the loop that is handed parts. -/
def HandsT (w : World) (B : Nat) (l N : Nat) (J Jx : List (Tl w B) → World → Prop) : Prop :=
  ∀ m pre (x : Tl w B) W, J pre W → pre.length < N → YieldAt Fence.wide m Try.prog l #[partV x.p, x.r] W fun e W' =>
    (e = .returned (.bool true) ∧ J (pre ++ [x]) W' ∧ Below B W W') ∨ (e = .returned (.bool false) ∧ Jx (pre ++ [x]) W')

set_option maxRecDepth 100000 in
set_option maxHeartbeats 2000000 in
theorem told_in (w : World) (B : Nat) (lp C Bt Bk : Nat) (A A' : Option Addr) (c c' : Nat) (b : List UInt8) (ks : List Bool) (J Jx : List (Tl w B) → World → Prop) (hA : AbidesFrom C J) (hY : HandsT w B lp ks.length J Jx) (n : Nat)
    (hl : b.length ≤ 10000) (hk : ks.length ≤ 1200) (W : World) (hBW : B ≤ W.heap.size) (hwW : Below B w W) (hs : SlB w B A b) (hsk : SlK w B A' ks) (hlc : b.length ≤ c) (hc : c ≤ maxLen)
    (hb : W.cell? ⟨Bt, 0, none⟩ = some (.slice A b.length c)) (hkb : W.cell? ⟨Bk, 0, none⟩ = some (.slice A' ks.length c')) (hJ : J [] W) :
    CallsIn Fence.wide n Try.prog 97 #[.func (.yield lp) #[] #[], .pointer (some ⟨Bt, 0, none⟩), .pointer (some ⟨Bk, 0, none⟩)] W fun e W' =>
      (∃ v, e = .returned v) ∧ ((∃ ys, ys.map Tl.pt = tellL ks b ∧ J ys W') ∨ ∃ q, q.map Tl.pt <+: tellL ks b ∧ Jx q W') := by
  refine callsIn_of_wp Try.func97 rfl trivial ?_ rfl
  simp only [Try.ntmps97, List.size_toArray, List.length_cons, List.length_nil, Nat.reduceAdd, Nat.reduceSub, Array.replicate_succ, Array.replicate_zero, List.push_toArray, List.append_toArray, List.nil_append, List.cons_append]
  have HR0 : Hid (Rest w B (.slice A b.length c) b) := ⟨A, c, rfl, hs, hlc, hc⟩
  gi_wp2
  gi_loopw [4, 13] (fun x y wr => ∃ (j : Nat) (pre : List (Tl w B)) (cur : List UInt8), y = .int .i64 (j : Int) ∧ j ≤ ks.length ∧ pre.length = j ∧ Hid (Rest w B x cur) ∧ cur.length ≤ 10000 ∧ Hid (pre.map Tl.pt ++ tellL (ks.drop j) cur = tellL ks b) ∧ J pre wr ∧ Hid (Below B w wr) ∧ B ≤ wr.heap.size) (fun _ y _ => ks.length - (intOf y).toNat)
  case atStart => exact ⟨0, [], b, rfl, by omega, rfl, HR0.out, hl, (by show _ = _; simp), hJ, hwW, hBW⟩
  case round =>
    obtain ⟨j, pre, cur, rfl, hj, hpl, HR, hcl, HT, hJk, HB, hBr⟩ := hrel
    clear hJ HR0
    by_cases hjl : j < ks.length
    · have hji : (j : Int) < (ks.length : Int) := by omega
      have hst : ks.drop j = ks[j] :: ks.drop (j + 1) := List.drop_eq_getElem_cons hjl
      obtain ⟨a, rfl, hal, hcells⟩ := hsk (by intro e; rw [e] at hjl; simp at hjl)
      have hkc := (HB.out.cell (p := a.add j) (by rw [add_block]; exact hal)).trans (hcells j _ (List.getElem?_eq_getElem hjl))
      obtain ⟨v, hv⟩ : ∃ v, ks[j] = v := ⟨_, rfl⟩
      rw [hv] at hkc hst
      rw [hst] at HT
      obtain ⟨X, x, rfl, hxs, hx1, hx2⟩ := HR.out
      have HX := Lib.hid (hxs.next HB.out (Nat.le_refl _))
      clear hst hcells hv hb hkb hxs
      gi_wp2_with fail
      refine ⟨trivial, wide_deep _, ?_⟩
      refine (callsIn_wide.2 (readPart_any v X x cur _ B hBr HX.out hx1 hx2 hcl)).mono ?_
      rintro e w3 ⟨h3, hb3⟩
      rcases h3 with ⟨p, t, r, hp, rfl, hr⟩ | ⟨hp, p, r, rfl⟩
      · have hbw := HB.out.trans (hb3.mono hBr)
        have HBW := Lib.hid hbw
        have hok := hr.back hbw (Nat.le_refl _)
        have HRT := Lib.hid hok
        have htl := partR_rest hp
        have HT2 : Hid (pre.map Tl.pt ++ (p, t) :: tellL (ks.drop (j + 1)) t = tellL ks b) := by
          show _ = _
          have := HT.out
          rw [tellL, hp] at this
          exact this
        have hJ4 : J pre (w3.alloc (.cells #[.bool p.v, .int .i64 p.n, .int .i64 p.k, .int .i64 p.m, .string p.s] 45)) := abides_at hA (abides_at hA hJk hb3) ((Below.refl _ _).alloc (Nat.le_refl _) _)
        have HB4 : Hid (Below B w (w3.alloc (.cells #[.bool p.v, .int .i64 p.n, .int .i64 p.k, .int .i64 p.m, .string p.s] 45))) := hbw.alloc (Nat.le_trans hBr hb3.size) _
        obtain ⟨fn, tmps, assign, body, hy, hR⟩ := hY (n - 1) pre ⟨p, t, r, hok⟩ (w3.alloc (.cells #[.bool p.v, .int .i64 p.n, .int .i64 p.k, .int .i64 p.m, .string p.s] 45)) hJ4 (by omega)
        have hy' : (Instr.yield lp #[.agg #[.bool p.v, .int .i64 p.n, .int .i64 p.k, .int .i64 p.m, .string p.s], r]).run Try.prog (w3.alloc (.cells #[.bool p.v, .int .i64 p.n, .int .i64 p.k, .int .i64 p.m, .string p.s] 45)) = .ok (.round lp fn tmps assign body) (w3.alloc (.cells #[.bool p.v, .int .i64 p.n, .int .i64 p.k, .int .i64 p.m, .string p.s] 45)) := hy
        unfold partV
        have hsz4 : B ≤ (w3.alloc (.cells #[.bool p.v, .int .i64 p.n, .int .i64 p.k, .int .i64 p.m, .string p.s] 45)).heap.size := by simp; have := hb3.size; omega
        clear hy hbw hr hp hJ4 hb3 HT hkc
        gi_wp2
        refine ⟨wide_deep _, ?_⟩
        refine hR.mono ?_
        rintro e W5 (⟨rfl, hJ5, hk5⟩ | ⟨rfl, hJx5⟩)
        · gi_wp2
          go_roundw
          case rel => exact ⟨j + 1, pre ++ [⟨p, t, r, hok⟩], t, by go_num, by omega, by rw [List.length_append]; simp; omega, HRT.out, by omega, (by show _ = _; rw [← HT2.out, List.map_append, List.append_assoc]; rfl), hJ5, HB4.out.trans hk5, by have := hk5.size; omega⟩
          case measure => simp [intOf]; omega
        · gi_wp2
          refine bodyPost_ret (results_none rfl _ _ _) rfl ?_
          exact ⟨⟨_, rfl⟩, .inr ⟨pre ++ [⟨p, t, r, hok⟩], ⟨tellL (ks.drop (j + 1)) t, by rw [← HT2.out, List.map_append, List.append_assoc]; rfl⟩, hJx5⟩⟩
      · have HE : Hid (pre.map Tl.pt = tellL ks b) := by
          show _ = _
          have := HT.out
          rw [tellL, hp] at this
          simpa using this
        have hJ3 := abides_at hA hJk hb3
        have HJ4 : Hid (J pre (w3.alloc (.cells #[.bool p.v, .int .i64 p.n, .int .i64 p.k, .int .i64 p.m, .string p.s] 45))) := abides_at hA hJ3 ((Below.refl _ _).alloc (Nat.le_refl _) _)
        unfold partV
        clear hp hb3 HT hkc hJ3
        gi_wp2
        refine ⟨fun f h => (by cases h), ?_⟩
        gi_wp2
        refine bodyPost_ret (results_none rfl _ _ _) rfl ?_
        exact ⟨⟨_, rfl⟩, .inl ⟨pre, HE.out, HJ4.out⟩⟩
    · have hji : ¬ (j : Int) < (ks.length : Int) := by omega
      have HE : Hid (pre.map Tl.pt = tellL ks b) := by
        show _ = _
        have := HT.out
        rw [List.drop_of_length_le (by omega), tellL] at this
        simpa using this
      gi_wp2
      go_end0
      exact ⟨⟨_, rfl⟩, .inl ⟨pre, HE.out, hJk⟩⟩

/-- told's value hands on the parts that bytes begin with, or some of them. -/
theorem told_stops (n : Nat) (B Bt Bk : Nat) (A A' : Option Addr) (c c' : Nat) (b : List UInt8) (ks : List Bool) (hl : b.length ≤ 10000) (hk : ks.length ≤ 1200) (w : World) (hB : B ≤ w.heap.size) (hBt : Bt < w.heap.size) (hBk : Bk < w.heap.size) (hs : SlB w B A b) (hsk : SlK w B A' ks) (hlc : b.length ≤ c) (hc : c ≤ maxLen)
    (hb : w.cell? ⟨Bt, 0, none⟩ = some (.slice A b.length c)) (hkb : w.cell? ⟨Bk, 0, none⟩ = some (.slice A' ks.length c')) :
    SeqStopsK Fence.wide n Try.prog 97 #[.pointer (some ⟨Bt, 0, none⟩), .pointer (some ⟨Bk, 0, none⟩)] (fun x : Tl w B => #[partV x.p, x.r]) (Below B) (fun ys => ys.map Tl.pt = tellL ks b) (fun pre => pre.map Tl.pt <+: tellL ks b) ks.length w := fun lp J Jx W hW hA _ hY h0' => by
  have hH : HandsT w B lp ks.length J Jx := fun m pre x W1 hj hl => YieldAt.anyDepth m (hY pre x W1 hj hl)
  have g0 := (hW.cell (p := ⟨Bt, 0, none⟩) hBt).trans hb
  have g1 := (hW.cell (p := ⟨Bk, 0, none⟩) hBk).trans hkb
  refine (told_in w B lp W.heap.size Bt Bk A A' c c' b ks J Jx hA hH n hl hk W (Nat.le_trans hB hW.size) (hW.mono hB) hs hsk hlc hc g0 g1 h0').mono ?_
  rintro e W' ⟨hv, ⟨ys, hys, hj⟩ | ⟨q, hq, hx⟩⟩
  · exact ⟨hv, .inl ⟨ys, hys, hj⟩⟩
  · exact ⟨hv, .inr ⟨q, hq, hx⟩⟩

set_option maxHeartbeats 400000 in
theorem toldOf_any (A A' : Option Addr) (n c n' c' : Nat) (w : World) :
    Calls Try.prog 66 #[.slice A n c, .slice A' n' c'] w fun e w' => e = .returned (.func (.func 97) #[] #[.pointer (some ⟨w.heap.size, 0, none⟩), .pointer (some ⟨w.heap.size + 1, 0, none⟩)]) ∧ w' = (w.alloc (.cells #[.slice A n c] 39)).alloc (.cells #[.slice A' n' c'] 74) := by
  go_enter Try.func66, Try.ntmps66
  go_wp2
  go_ret
  exact ⟨rfl, rfl⟩
end Go.Proofs.Ytkoknogefmfmnaa

/-
  CONTRACT: Read (the program's).
-/
namespace Go.Proofs.Ytkoknogefmfmnaa
open Go.RowKit Go.Shelf
attribute [local go_sem] Oper.semAt_some

theorem info44 : (Try.prog.info? 45).map (fun i => (i.zero, i.size, i.bytes)) = some (some (.agg #[.bool false, .int .i64 0, .int .i64 0, .int .i64 0, .string ⟨#[]⟩]), 5, 48) := by kernel_rfl
def cellsP (p : PartP) : List Value := [.bool p.v, .int .i64 p.n, .int .i64 p.k, .int .i64 p.m, .string p.s]
/-- a slice of parts in blocks from B on, which the call has to itself -/
def OwnP (W : World) (B : Nat) (v : Value) (l : List PartP) : Prop := W.ownsRow B 45 5 v l.length (l.flatMap cellsP)
theorem OwnP.kept {W W' : World} {B : Nat} {v : Value} {l : List PartP} {row : Option Nat} (h : OwnP W B v l) (hg : W.grownBy W' row) (hr : ∀ r, row = some r → ∃ o : Obj, W.heap[r]? = some o ∧ o.isCells = false) : OwnP W' B v l := by
  refine World.ownsRow.kept (row := row) h hg ?_
  rcases h.2 with ⟨rfl, _⟩ | ⟨g, cap, cur, rfl, _, hgb, _⟩
  · exact .inl rfl
  · refine .inr fun e => ?_
    obtain ⟨_, ho, hc⟩ := hr g (by rw [← e]; rfl)
    rw [hgb] at ho
    cases ho
    simp [Obj.isCells] at hc
theorem OwnP.other {W : World} {B b : Nat} {t : TypeId} {u v : Value} {l : List PartP} (h : OwnP W B v l) (hb : Boxed W b t u) (ht : t ≠ 45) (u' : Value) : OwnP (W.setCell ⟨b, 0, none⟩ u') B v l := by
  refine World.ownsRow.kept (row := some b) h (grownBy_setCell' W b u') ?_
  have h1 := hb.not_row ht h
  cases hv : v.ownBlock with
  | none => exact .inl rfl
  | some g => exact .inr (fun e => h1 (by rw [hv, e]))
theorem OwnP.alloc {W : World} {B : Nat} {v : Value} {l : List PartP} (h : OwnP W B v l) (o : Obj) : OwnP (W.alloc o) B v l := World.ownsRow.alloc h o
theorem PartBox.kept {W W' : World} {b : Nat} {p : PartP} {row : Option Nat} (h : PartBox W b p) (hg : W.grownBy W' row) (hr : ∀ r, row = some r → ∃ o : Obj, W.heap[r]? = some o ∧ o.isCells = false) : PartBox W' b p := by
  refine (hg.block b (Array.getElem?_eq_some_iff.1 h).1 fun e => ?_).trans h
  obtain ⟨o, ho, hc⟩ := hr b e.symm
  rw [show W.heap[b]? = _ from h] at ho
  cases ho
  simp [Obj.isCells] at hc

/-- what stands behind the last part that was told -/
def lastR {w : World} {B : Nat} (r0 : Value) (pre : List (Tl w B)) : Value := match pre.getLast? with
  | none => r0
  | some x => x.r
def RMid (w w0 : World) (B : Nat) (r0 : Value) (pre : List (Tl w B)) (W : World) : Prop :=
  ∃ v, Boxed W w0.heap.size 46 v ∧ OwnP W w0.heap.size v (pre.map (·.p)) ∧ Boxed W (w0.heap.size + 1) 39 (lastR r0 pre) ∧ Below w0.heap.size w0 W ∧ pre.length ≤ 1200
theorem rMid_own (w w0 : World) (B : Nat) (r0 : Value) : OwnFrom (w0.heap.size + 4) (RMid w w0 B r0) := fun pre X Y row ⟨v, h1, h2, h3, h4, h5⟩ hg hr => by
  have hne : ∀ b, b < w0.heap.size + 4 → some b ≠ row := fun b hb e => by have := (hr b e.symm).1; omega
  exact ⟨v, h1.kept hg (hne _ (by omega)), h2.kept hg (fun r e => (hr r e).2), h3.kept hg (hne _ (by omega)), h4.grown hg h4.size (fun j ej => by have := (hr j ej).1; omega), h5⟩

theorem ownsRow_succ' {W : World} {B : Nat} {e : TypeId} {size n : Nat} {v : Value} {xs : List Value} (h : W.ownsRow B e size v (n + 1) xs) : ∃ g cap, v = .slice (some ⟨g, 0, none⟩) (n + 1) cap := by
  rcases h.2 with ⟨_, h0⟩ | ⟨g, cap, cur, rfl, _⟩
  · omega
  · exact ⟨g, cap, rfl⟩
theorem cellsP_one (p : PartP) : ∀ u ∈ cellsP p, u.oneCell' = true := by
  intro u hu
  simp [cellsP] at hu
  rcases hu with rfl | rfl | rfl | rfl | rfl <;> rfl

/-- what bytes are read as, whole -/
def readL (ks : List Bool) (b : List UInt8) : Option (List PartP) := if (tellL ks b).length = ks.length ∧ ((tellL ks b).getLast?.map (·.2)).getD b = [] then some ((tellL ks b).map (·.1)) else none
theorem tellL_len : ∀ (ks : List Bool) (b : List UInt8), (tellL ks b).length ≤ ks.length
  | [], _ => Nat.le_refl _
  | v :: ks, b => by
    rw [tellL]
    split
    · simp
    · have := tellL_len ks
      simp [this]
theorem ownP_form {W : World} {B : Nat} {v : Value} {l : List PartP} (h : OwnP W B v l) : ∃ A c, v = .slice A l.length c := by
  rcases h.2 with ⟨rfl, h0⟩ | ⟨g, cap, cur, rfl, _⟩
  · exact ⟨none, 0, by rw [h0]⟩
  · exact ⟨_, _, rfl⟩
theorem lastR_is {w : World} {B : Nat} (A : Option Addr) (c : Nat) (b : List UInt8) (pre : List (Tl w B)) : ∃ RA rc u, lastR (.slice A b.length c) pre = .slice RA u.length rc ∧ u = (pre.getLast?.map (·.t)).getD b := by
  unfold lastR
  cases pre.getLast? with
  | none => exact ⟨A, c, b, rfl, rfl⟩
  | some x =>
    obtain ⟨RA, rc, e, _⟩ := x.ok
    exact ⟨RA, rc, x.t, e, rfl⟩
/-- What Read answers. -/
def ReadEnd (W : World) (ks : List Bool) (b : List UInt8) (e : Ending) (w' : World) : Prop :=
  ((∃ ps v, readL ks b = some ps ∧ e = .returned (.tuple #[v, .int .i64 0]) ∧ OwnP w' W.heap.size v ps) ∨ (readL ks b = none ∧ e = .returned (.tuple #[.slice none 0 0, .int .i64 20]))) ∧ Below W.heap.size W w'
theorem readEnd_yes {W w' : World} {ks : List Bool} {b : List UInt8} {ps : List PartP} {v : Value} (h : readL ks b = some ps) (ho : OwnP w' W.heap.size v ps) (hb : Below W.heap.size W w') : ReadEnd W ks b (.returned (.tuple #[v, .int .i64 0])) w' := ⟨.inl ⟨ps, v, h, rfl, ho⟩, hb⟩
theorem readEnd_no {W w' : World} {ks : List Bool} {b : List UInt8} {v n : Value} (h : readL ks b = none) (hv : v = .slice none 0 0) (hn : n = .int .i64 20) (hb : Below W.heap.size W w') : ReadEnd W ks b (.returned (.tuple #[v, n])) w' := ⟨.inr ⟨h, by rw [hv, hn]⟩, hb⟩

set_option maxRecDepth 100000 in
set_option maxHeartbeats 4000000 in
theorem read_in (m : Nat) (hm3 : Hid (3 ≤ m)) (A A' : Option Addr) (c c' : Nat) (b : List UInt8) (ks : List Bool) (w : World) (hs : SlB w w.heap.size A b) (hsk : SlK w w.heap.size A' ks) (hl : b.length ≤ 10000) (hk : ks.length ≤ 1200) (hlc : b.length ≤ c) (hc : c ≤ maxLen) :
    CallsIn Fence.wide m Try.prog 43 #[.slice A b.length c, .slice A' ks.length c'] w (ReadEnd w ks b) := by
  obtain ⟨i0, hi, hz0, hz1, hz2⟩ := info_parts info44
  have hmx : 50000 ≤ maxLen := by decide
  refine callsIn_of_wp_marks Try.func43 rfl trivial ?_ rfl
  simp only [Try.ntmps43, List.size_toArray, List.length_cons, List.length_nil, Nat.reduceAdd, Nat.reduceSub, Array.replicate_succ, Array.replicate_zero, List.push_toArray, List.append_toArray, List.nil_append, List.cons_append]
  gi_wp2_with fail
  refine ⟨trivial, wide_deep _, ?_⟩
  refine (callsIn_wide.2 (toldOf_any _ _ _ _ _ _ _)).mono ?_
  rintro e w2 ⟨rfl, rfl⟩
  gi_wp2_with fail
  obtain ⟨W2, hW2⟩ : ∃ W2, ((((w.alloc (.cells #[.slice none 0 0] 46)).alloc (.cells #[.slice A b.length c] 39)).alloc (.cells #[.slice A b.length c] 39)).alloc (.cells #[.slice A' ks.length c'] 74)) = W2 := ⟨_, rfl⟩
  have hz : W2.heap.size = w.heap.size + 4 := by rw [← hW2]; simp
  have hB2 : Below w.heap.size w W2 := by rw [← hW2]; exact ((((Below.refl _ _).alloc (Nat.le_refl _) _).alloc (by simp) _).alloc (by simp; omega) _).alloc (by simp; omega) _
  have hP : Boxed W2 w.heap.size 46 (.slice none 0 0) := by
    rw [← hW2]
    exact (((Boxed.new w 46 (.slice none 0 0)).alloc _).alloc _).alloc _
  have hQ : Boxed W2 (w.heap.size + 1) 39 (.slice A b.length c) := by
    rw [← hW2]
    have := Boxed.new (w.alloc (.cells #[.slice none 0 0] 46)) 39 (.slice A b.length c)
    rw [World.size_alloc] at this
    exact (this.alloc _).alloc _
  have hV1 : Boxed W2 (w.heap.size + 1 + 1) 39 (.slice A b.length c) := by
    rw [← hW2]
    have := Boxed.new ((w.alloc (.cells #[.slice none 0 0] 46)).alloc (.cells #[.slice A b.length c] 39)) 39 (.slice A b.length c)
    rw [World.size_alloc, World.size_alloc] at this
    exact this.alloc _
  have hV2 : Boxed W2 (w.heap.size + 1 + 1 + 1) 74 (.slice A' ks.length c') := by
    rw [← hW2]
    have := Boxed.new (((w.alloc (.cells #[.slice none 0 0] 46)).alloc (.cells #[.slice A b.length c] 39)).alloc (.cells #[.slice A b.length c] 39)) 74 (.slice A' ks.length c')
    rw [World.size_alloc, World.size_alloc, World.size_alloc] at this
    exact this
  rw [hW2]
  clear hW2
  have hro : Fence.wide.round = none := rfl
  refine wpIn_rangeFunc_ownH hro (by have := hm3.out; omega) (gf := 97) (lb := #[.pointer (some ⟨w.heap.size + 1 + 1, 0, none⟩), .pointer (some ⟨w.heap.size + 1 + 1 + 1, 0, none⟩)]) rfl trivial (enters_of Try.func97 (by kernel_rfl) rfl)
    (told_stops (m - 1) w.heap.size (w.heap.size + 1 + 1) (w.heap.size + 1 + 1 + 1) A A' c c' b ks hl hk W2 (by omega) (by omega) (by omega) (hs.next hB2 (Nat.le_refl _)) (hsk.next hB2 (Nat.le_refl _)) hlc hc hV1.cell hV2.cell)
    (fun h k => h.trans k) (fun W l o o' hl h h1 h2 => belowK_b (w := W2) (n₀ := w.heap.size) (by omega) W l o o' hl h h1 h2) (Below.refl _ _) (fun _ => rfl)
    (RMid W2 w w.heap.size (.slice A b.length c)) (fun _ _ _ => False) (by rw [hz]; exact rMid_own _ _ _ _) (fun _ _ _ _ _ h => h.elim)
    ⟨_, hP, World.ownsRow_nil _ _ _ _, hQ, hB2, by simp⟩
    (fun x a' W => ∃ g, PartBox W g x.p ∧ a' = { tmps := #[.slice A b.length c, .slice A' ks.length c', undef, undef, .slice none 0 0, .int .i64 0, .pointer (some ⟨w.heap.size, 0, none⟩), .pointer (some ⟨w.heap.size + 1, 0, none⟩), .pointer (some ⟨g, 0, none⟩), x.r, .slice A b.length c, .slice A b.length c, .slice A' ks.length c', .func (.func 97) #[] #[.pointer (some ⟨w.heap.size + 1 + 1, 0, none⟩), .pointer (some ⟨w.heap.size + 1 + 1 + 1, 0, none⟩)], .agg #[.bool x.p.v, .int .i64 x.p.n, .int .i64 x.p.k, .int .i64 x.p.m, .string x.p.s], x.r, undef, undef, undef, undef, undef, undef, undef, undef, undef, undef, undef, undef, undef, undef, undef, undef], defers := [] })
    (fun x a' _ X Y row ⟨g, hg, e⟩ hgr hr => ⟨g, hg.kept hgr (fun r e => (hr r e).2), e⟩) ?assign ?body ?done ?stop
  case assign =>
    rintro l pre x W K ⟨v, h1, h2, h3, h4, h5⟩ hK
    simp only [partV]
    gi_wp2
    exact hK _ _ (keepsFrom_below ((Below.refl _ W).alloc (Nat.le_refl _) _)) ((Below.refl _ W).alloc h4.size _) ⟨v, h1.alloc _, h2.alloc _, h3.alloc _, h4.alloc h4.size _, h5⟩ ⟨W.heap.size, partBox_new W x.p, rfl⟩
  case body =>
    rintro l pre x a' W hwl _ ⟨v, h1, h2, h3, h4, h5⟩ ⟨g, hg, rfl⟩ hlt
    have b0 := h1.cell
    have b1 := h1.frozen
    have k0 := hg.cell 0
    have k1 := hg.cell 1
    have k2 := hg.cell 2
    have k3 := hg.cell 3
    have k4 := hg.cell 4
    simp at k0 k1 k2 k3 k4
    have hpm : (pre.map (·.p)).length = pre.length := List.length_map _
    have hbz := h4.size
    obtain ⟨RA, rn, rc, hxr⟩ : ∃ RA rn rc, x.r = .slice RA rn rc := by obtain ⟨RA, rc, e, _⟩ := x.ok; exact ⟨RA, _, rc, e⟩
    rw [hxr]
    have HXR := Lib.hid hxr
    clear hxr
    gi_wp2_with (gi_at_builtin; refine wpListIn_append_own _ rfl _ _ 46 rfl w.heap.size 45 i0 (.agg #[.bool false, .int .i64 0, .int .i64 0, .int .i64 0, .string ⟨#[]⟩]) 5 48 Try.underlying46 hi hz0 hz1 hz2 rfl (by decide) _ _ _ rfl (h2.alloc _) ⟨W.heap.size, 0, none⟩ 1 1 (cellsP x.p) rfl rfl (fun j u h => cell_lit _ _ _ j u h) (cellsP_one x.p) (by omega) (by omega) (by simp; omega) ?_; intro v' w3 hown' hgrow _; rw [hpm] at hown'; obtain ⟨g', cap', rfl⟩ := ownsRow_succ' hown'; obtain ⟨hv1, hv2, hr2, hk2, hb2⟩ := h1.appended (by decide) h2 h4.size (Nat.le_refl _) hown' hgrow; have hq3 := (h3.alloc (.cells #[.bool x.p.v, .int .i64 x.p.n, .int .i64 x.p.k, .int .i64 x.p.m, .string x.p.s] 45)).kept hgrow (h3.not_row (by decide) h2); have hq4 : Boxed (w3.setCell ⟨w.heap.size, 0, none⟩ (.slice (some ⟨g', 0, none⟩) (pre.length + 1) cap')) (w.heap.size + 1) 39 _ := hq3.other (by omega) _; have y0 := hv1.cell; have y1 := hv1.frozen; have y2 := hq4.cell; have y3 := hq4.frozen)
    have hr3 : OwnP (w3.setCell ⟨w.heap.size, 0, none⟩ (.slice (some ⟨g', 0, none⟩) (pre.length + 1) cap')) w.heap.size (.slice (some ⟨g', 0, none⟩) (pre.length + 1) cap') ((pre ++ [x]).map (·.p)) := by
      show World.ownsRow _ _ _ _ _ _ _
      simpa using hr2
    exact ⟨(hk2.from _).trans (keepsFrom_set (p := ⟨w.heap.size + 1, 0, none⟩) hq4 _), hb2.setCell (p := ⟨w.heap.size + 1, 0, none⟩) (Nat.le_succ _) _, _, hv2.other (by omega) _, hr3.other hq4 (by decide) _, (by have := hq4.set (.slice RA rn rc); rw [← HXR.out] at this ⊢; simpa [lastR] using this), (h4.trans hb2).setCell (p := ⟨w.heap.size + 1, 0, none⟩) (Nat.le_succ _) _, by rw [List.length_append]; simp; omega⟩
  case done =>
    rintro D ys W hD hys ⟨v, h1, h2, h3, h4, h5⟩ hK
    have hLp : ys.length = (tellL ks b).length := by rw [← hys, List.length_map]
    have hLk := tellL_len ks b
    have hPs : ys.map (·.p) = (tellL ks b).map (·.1) := by rw [← hys, List.map_map]; rfl
    obtain ⟨RA, rc, u, hru, hu⟩ := lastR_is (w := W2) (B := w.heap.size) A c b ys
    have hLast : u = ((tellL ks b).getLast?.map (·.2)).getD b := by rw [hu, ← hys, List.getLast?_map, Option.map_map]; rfl
    obtain ⟨X, x, rfl⟩ := ownP_form h2
    have b0 := h1.cell
    rw [hru] at h3
    have q0 := h3.cell
    rw [List.length_map] at b0
    have H2 := Lib.hid h2
    have H4 := Lib.hid h4
    have HPS := Lib.hid hPs
    have HLAST := Lib.hid hLast
    have HLP := Lib.hid hLp
    clear h1 h2 h3 h4 hru hu hPs hLast hys hLp
    have hbw : Below w.heap.size w (W.putObj D (.deferred none)) := H4.out.trans (belowK_b (w := W2) (n₀ := w.heap.size) (by omega) W D _ _ hD hK rfl rfl)
    have HBW := Lib.hid hbw
    clear hbw
    by_cases ha : ys.length < ks.length
    · have hai : (ys.length : Int) < (ks.length : Int) := by omega
      have HN : Hid (readL ks b = none) := by
        show _ = _
        unfold readL
        rw [if_neg]
        intro h
        have := h.1
        rw [← HLP.out] at this
        omega
      gi_wp2
      refine ⟨by simp, .inl ⟨_, _, rfl, run_takeDeferred hK, ?_⟩⟩
      exact ⟨_, results_tmp2 rfl _ _ _, readEnd_no HN.out rfl rfl HBW.out⟩
    · have hai : ¬ (ys.length : Int) < (ks.length : Int) := by omega
      by_cases hb0 : u = []
      · have hul : u.length = 0 := by rw [hb0]; rfl
        have HY : Hid (readL ks b = some ((tellL ks b).map (·.1))) := by
          show _ = _
          unfold readL
          rw [if_pos ⟨by have := HLP.out; omega, by rw [← HLAST.out, hb0]⟩]
        have hul0 : ¬ (0 : Int) < (u.length : Int) := by omega
        clear hb0
        gi_wp2
        refine ⟨by simp, .inl ⟨_, _, rfl, run_takeDeferred hK, ?_⟩⟩
        exact ⟨_, results_tmp2 rfl _ _ _, readEnd_yes HY.out (by have h9 := H2.out.kept (grownBy_putObj' W D (.deferred none)) (fun r e => by injection e with e; subst e; exact ⟨_, hK, rfl⟩); rw [← HPS.out]; simpa using h9) HBW.out⟩
      · have hul : (0 : Int) < (u.length : Int) := by
          have : u.length ≠ 0 := fun e => hb0 (List.length_eq_zero_iff.1 e)
          omega
        have HN : Hid (readL ks b = none) := by
          show _ = _
          unfold readL
          rw [if_neg]
          intro h
          rw [← HLAST.out] at h
          exact hb0 h.2
        clear hb0
        gi_wp2
        refine ⟨by simp, .inl ⟨_, _, rfl, run_takeDeferred hK, ?_⟩⟩
        exact ⟨_, results_tmp2 rfl _ _ _, readEnd_no HN.out rfl rfl HBW.out⟩
  case stop =>
    rintro D cd pre W _ _ h _
    exact h.elim

theorem read_any (A A' : Option Addr) (c c' : Nat) (b : List UInt8) (ks : List Bool) (w : World) (hs : SlB w w.heap.size A b) (hsk : SlK w w.heap.size A' ks) (hl : b.length ≤ 10000) (hk : ks.length ≤ 1200) (hlc : b.length ≤ c) (hc : c ≤ maxLen) :
    Calls Try.prog 43 #[.slice A b.length c, .slice A' ks.length c'] w (ReadEnd w ks b) :=
  (callsIn_wide (n := 9)).1 (read_in 9 (Nat.le_of_ble_eq_true rfl) A A' c c' b ks w hs hsk hl hk hlc hc)
end Go.Proofs.Ytkoknogefmfmnaa

/-
  PLAIN FACTS: Read of a key; Key of what is read.
-/
namespace Go.Proofs.Ytkoknogefmfmnaa
open Go.RowKit Go.Shelf

def lastT (ks : List Bool) (b : List UInt8) : List UInt8 := ((tellL ks b).getLast?.map (·.2)).getD b
theorem lastT_nil (b : List UInt8) : lastT [] b = b := rfl
theorem lastT_cons {v : Bool} {ks : List Bool} {b t : List UInt8} {p : PartP} (h : partR v b = some (p, t)) : lastT (v :: ks) b = lastT ks t := by
  unfold lastT
  rw [tellL, h]
  simp only [List.getLast?_cons]
  cases (tellL ks t).getLast? <;> rfl
theorem readL_is (ks : List Bool) (b : List UInt8) : readL ks b = if (tellL ks b).length = ks.length ∧ lastT ks b = [] then some ((tellL ks b).map (·.1)) else none := rfl
theorem tell_key : ∀ (l : List PartP), l.all partMay = true → (∀ p ∈ l, partOk p) → ∀ t, (tellL (l.map (·.v)) (keyB l ++ t)).map (·.1) = l.map cleanP ∧ lastT (l.map (·.v)) (keyB l ++ t) = t
  | [], _, _, t => ⟨rfl, rfl⟩
  | p :: l, hm, hk, t => by
    rw [List.all_cons, Bool.and_eq_true] at hm
    obtain ⟨h1, h2⟩ := tell_key l hm.2 (fun q hq => hk q (by simp [hq])) t
    have hp := partR_partB hm.1 (hk p (by simp)) (keyB l ++ t)
    have e : keyB (p :: l) ++ t = partB p ++ (keyB l ++ t) := by unfold keyB; rw [List.flatMap_cons, List.append_assoc]
    rw [e, List.map_cons, lastT_cons hp]
    refine ⟨?_, h2⟩
    rw [tellL, hp]
    simp only [List.map_cons, h1]
theorem read_key {l : List PartP} (hm : l.all partMay = true) (hk : ∀ p ∈ l, partOk p) : readL (l.map (·.v)) (keyB l) = some (l.map cleanP) := by
  obtain ⟨h1, h2⟩ := tell_key l hm hk []
  rw [List.append_nil] at h1 h2
  have h3 := congrArg List.length h1
  rw [List.length_map, List.length_map] at h3
  rw [readL_is, if_pos ⟨by rw [h3, List.length_map], h2⟩, h1]
theorem key_tell : ∀ (ks : List Bool) (b : List UInt8), b = keyB ((tellL ks b).map (·.1)) ++ lastT ks b ∧ ((tellL ks b).map (·.1)).all partMay = true ∧ (∀ p ∈ (tellL ks b).map (·.1), partOk p) ∧ costP ((tellL ks b).map (·.1)) + (lastT ks b).length ≤ 10 * ks.length + b.length
  | [], b => ⟨rfl, rfl, fun _ h => (by cases h), by show costP [] + b.length ≤ _; simp [costP]⟩
  | v :: ks, b => by
    cases hp : partR v b with
    | none =>
      have e : tellL (v :: ks) b = [] := by rw [tellL, hp]
      have e2 : lastT (v :: ks) b = b := by unfold lastT; rw [e]; rfl
      rw [e, e2]
      exact ⟨rfl, rfl, fun _ h => (by cases h), by show costP [] + b.length ≤ _; simp [costP]⟩
    | some x =>
      obtain ⟨p, t⟩ := x
      obtain ⟨h1, h2, h3, h4⟩ := key_tell ks t
      obtain ⟨g1, g2, g3⟩ := partB_partR hp
      have g4 := partR_size hp
      have e : tellL (v :: ks) b = (p, t) :: tellL ks t := by rw [tellL, hp]
      rw [e, lastT_cons hp, List.map_cons]
      have e3 : costP (p :: (tellL ks t).map (·.1)) = 10 + p.s.size + costP ((tellL ks t).map (·.1)) := by unfold costP; rw [List.map_cons, List.sum_cons]
      have e4 : b.length = (partB p).length + t.length := by rw [g1, List.length_append]
      refine ⟨?_, ?_, ?_, ?_⟩
      · have e5 : keyB (p :: (tellL ks t).map (·.1)) = partB p ++ keyB ((tellL ks t).map (·.1)) := by unfold keyB; rw [List.flatMap_cons]
        show b = keyB (p :: (tellL ks t).map (·.1)) ++ _
        rw [e5, List.append_assoc, ← h1]
        exact g1
      · rw [List.all_cons, Bool.and_eq_true]; exact ⟨g2, h2⟩
      · intro q hq
        rcases List.mem_cons.1 hq with rfl | hq
        · exact g3
        · exact h3 q hq
      · show costP (p :: (tellL ks t).map (·.1)) + _ ≤ _
        rw [e3, List.length_cons, e4]
        omega
theorem key_read {ks : List Bool} {b : List UInt8} {ps : List PartP} (h : readL ks b = some ps) : keyB ps = b ∧ ps.all partMay = true ∧ (∀ p ∈ ps, partOk p) ∧ costP ps ≤ 10 * ks.length + b.length := by
  rw [readL_is] at h
  split at h
  · rename_i hc
    cases h
    obtain ⟨h1, h2, h3, h4⟩ := key_tell ks b
    rw [hc.2, List.append_nil] at h1
    exact ⟨h1.symm, h2, h3, by omega⟩
  · cases h
end Go.Proofs.Ytkoknogefmfmnaa

/-
  PLAIN FACTS on datoms: their parts in an order, their keys, how two stand.
-/
namespace Go.Proofs.Ytkoknogefmfmnaa

structure Dat where
  e : Int
  a : Int
  k : Int
  m : Int
  s : ByteArray
  t : Int
  add : Bool
  fr : Int
  til : Int
def plE (o : Int) : Nat := if o = 1 then 0 else if o = 2 then 1 else 2
def plA (o : Int) : Nat := if o = 1 ∨ o = 4 then 1 else 0
def plV (o : Int) : Nat := if o = 1 ∨ o = 2 then 2 else if o = 3 then 1 else 0
def isO (o : Int) : Bool := decide (1 ≤ o ∧ o ≤ 4)
def numP (n : Int) : PartP := ⟨false, n, 0, 0, ⟨#[]⟩⟩
def valP (d : Dat) : PartP := ⟨true, 0, d.k, d.m, d.s⟩
def cutN (b : Bool) : Int := if b then 0 else 1
/-- what a datom has at a place -/
def partD (o : Int) (d : Dat) (i : Nat) : PartP :=
  if i = plE o then numP d.e else if i = plA o then numP d.a else if i = plV o then valP d else if i = 3 then numP d.t else if i = 4 then numP (cutN d.add) else if i = 5 then numP d.fr else numP d.til
def partsD (o : Int) (d : Dat) : List PartP := (List.range 7).map (partD o d)
def kindsD (o : Int) : List Bool := (List.range 7).map fun i => decide (i = plV o)
def entB (n : Int) : Bool := decide (0 ≤ n ∧ n < 9007199254740992)
def mayD (d : Dat) : Bool := entB d.e && entB d.a && mayB d.k d.m d.s && decide (1 ≤ d.t ∧ d.t ≤ 1099511627776) && decide (d.fr < d.til)
def hasD (o : Int) (d : Dat) : Bool := decide (1 ≤ o ∧ o ≤ 3 ∨ o = 4 ∧ d.k = 5)
def ordD (o : Int) (d d' : Dat) : Int := if isO o = true then ordK (partsD o d) (partsD o d') else 0
def keyD (o : Int) (d : Dat) : List UInt8 := keyB (partsD o d)
/-- has an order a datom that may be? -/
def fitD (o : Int) (d : Dat) : Bool := mayD d && hasD o d
def i64B (n : Int) : Prop := -9223372036854775808 ≤ n ∧ n ≤ 9223372036854775807
structure DatOk (d : Dat) : Prop where
  e : i64B d.e
  a : i64B d.a
  k : i64B d.k
  m : i64B d.m
  t : i64B d.t
  fr : i64B d.fr
  til : i64B d.til

theorem isO_cases {o : Int} (h : isO o = true) : o = 1 ∨ o = 2 ∨ o = 3 ∨ o = 4 := by
  unfold isO at h
  rw [decide_eq_true_eq] at h
  omega
theorem isO_no {o : Int} (h : isO o = false) (d : Dat) : hasD o d = false := by
  unfold isO at h
  unfold hasD
  rw [decide_eq_false_iff_not] at h ⊢
  omega
theorem partsD_1 (d : Dat) : partsD 1 d = [numP d.e, numP d.a, valP d, numP d.t, numP (cutN d.add), numP d.fr, numP d.til] := rfl
theorem partsD_2 (d : Dat) : partsD 2 d = [numP d.a, numP d.e, valP d, numP d.t, numP (cutN d.add), numP d.fr, numP d.til] := rfl
theorem partsD_3 (d : Dat) : partsD 3 d = [numP d.a, valP d, numP d.e, numP d.t, numP (cutN d.add), numP d.fr, numP d.til] := rfl
theorem partsD_4 (d : Dat) : partsD 4 d = [valP d, numP d.a, numP d.e, numP d.t, numP (cutN d.add), numP d.fr, numP d.til] := rfl
theorem partsD_len (o : Int) (d : Dat) : (partsD o d).length = 7 := by unfold partsD; simp
theorem kindsD_len (o : Int) : (kindsD o).length = 7 := by unfold kindsD; simp
theorem partsD_kinds {o : Int} (h : isO o = true) (d : Dat) : (partsD o d).map (·.v) = kindsD o := by
  rcases isO_cases h with rfl | rfl | rfl | rfl <;> rfl
theorem partsD_at (o : Int) (d : Dat) (i : Nat) (h : i < 7) : (partsD o d)[i]? = some (partD o d i) := by
  unfold partsD
  rw [List.getElem?_map, List.getElem?_range h]; rfl
theorem partD_cases (o : Int) (d : Dat) (i : Nat) : (∃ n, partD o d i = numP n ∧ (DatOk d → i64B n)) ∨ partD o d i = valP d := by
  unfold partD
  repeat' split
  · exact .inl ⟨_, rfl, fun h => h.e⟩
  · exact .inl ⟨_, rfl, fun h => h.a⟩
  · exact .inr rfl
  · exact .inl ⟨_, rfl, fun h => h.t⟩
  · refine .inl ⟨_, rfl, fun _ => ?_⟩
    unfold i64B cutN
    split <;> omega
  · exact .inl ⟨_, rfl, fun h => h.fr⟩
  · exact .inl ⟨_, rfl, fun h => h.til⟩
theorem partsD_mem {o : Int} {d : Dat} {p : PartP} (h : p ∈ partsD o d) : ∃ i, p = partD o d i := by
  unfold partsD at h
  obtain ⟨i, _, rfl⟩ := List.mem_map.1 h
  exact ⟨i, rfl⟩
theorem partsD_ok {o : Int} {d : Dat} (hk : DatOk d) : ∀ p ∈ partsD o d, partOk p := fun p hp => by
  obtain ⟨i, rfl⟩ := partsD_mem hp
  rcases partD_cases o d i with ⟨n, e, h⟩ | e
  · rw [e]; exact ⟨h hk, by show (-9223372036854775808 : Int) ≤ 0 ∧ (0 : Int) ≤ 9223372036854775807; decide⟩
  · rw [e]; exact ⟨by show (-9223372036854775808 : Int) ≤ 0 ∧ (0 : Int) ≤ 9223372036854775807; decide, hk.m⟩
theorem partsD_may {o : Int} {d : Dat} (h : mayB d.k d.m d.s = true) : ∀ p ∈ partsD o d, partMay p = true := fun p hp => by
  obtain ⟨i, rfl⟩ := partsD_mem hp
  rcases partD_cases o d i with ⟨n, e, _⟩ | e
  · rw [e]; rfl
  · rw [e]; exact h
theorem partsD_allMay {o : Int} {d : Dat} (h : mayB d.k d.m d.s = true) : (partsD o d).all partMay = true := List.all_eq_true.2 (partsD_may h)
theorem mayD_val {d : Dat} (h : mayD d = true) : mayB d.k d.m d.s = true := by
  unfold mayD at h
  simp only [Bool.and_eq_true] at h
  exact h.1.1.2
theorem fitD_may {o : Int} {d : Dat} (h : fitD o d = true) : mayD d = true := (Bool.and_eq_true_iff.1 h).1
theorem fitD_isO {o : Int} {d : Dat} (h : fitD o d = true) : isO o = true := by
  cases ho : isO o with
  | true => rfl
  | false =>
    have := (Bool.and_eq_true_iff.1 h).2
    rw [isO_no ho] at this
    cases this
theorem partsD_size {o : Int} {d : Dat} : ∀ p ∈ partsD o d, p.s.size ≤ d.s.size := fun p hp => by
  obtain ⟨i, rfl⟩ := partsD_mem hp
  rcases partD_cases o d i with ⟨n, e, _⟩ | e
  · rw [e]; exact Nat.zero_le _
  · rw [e]; exact Nat.le_refl _
theorem clean_num (n : Int) : cleanP (numP n) = numP n := rfl
theorem clean_val (d : Dat) : cleanP (valP d) = valP d := rfl
theorem partsD_clean (o : Int) (d : Dat) : (partsD o d).map cleanP = partsD o d := by
  refine (List.map_congr_left fun p hp => ?_).trans (List.map_id _)
  obtain ⟨i, rfl⟩ := partsD_mem hp
  rcases partD_cases o d i with ⟨n, e, _⟩ | e
  · rw [e]; rfl
  · rw [e]; rfl
theorem partsD_cost {o : Int} (h : isO o = true) (d : Dat) : costP (partsD o d) = 70 + d.s.size := by
  have e : ∀ n, (numP n).s.size = 0 := fun _ => rfl
  rcases isO_cases h with rfl | rfl | rfl | rfl
  · rw [partsD_1]; unfold costP; simp only [List.map_cons, List.map_nil, List.sum_cons, List.sum_nil, e]; show 10 + 0 + (10 + 0 + (10 + d.s.size + _)) = _; omega
  · rw [partsD_2]; unfold costP; simp only [List.map_cons, List.map_nil, List.sum_cons, List.sum_nil, e]; show 10 + 0 + (10 + 0 + (10 + d.s.size + _)) = _; omega
  · rw [partsD_3]; unfold costP; simp only [List.map_cons, List.map_nil, List.sum_cons, List.sum_nil, e]; show 10 + 0 + (10 + d.s.size + (10 + 0 + _)) = _; omega
  · rw [partsD_4]; unfold costP; simp only [List.map_cons, List.map_nil, List.sum_cons, List.sum_nil, e]; show 10 + d.s.size + (10 + 0 + (10 + 0 + _)) = _; omega

/-- keys stand as datoms do -/
theorem keyD_ord {o : Int} {d d' : Dat} (h : fitD o d = true) (h' : fitD o d' = true) (hk : DatOk d) (hk' : DatOk d') : ordL (keyD o d) (keyD o d') = ordD o d d' := by
  have ho := fitD_isO h
  unfold ordD
  rw [if_pos ho]
  exact key_ord _ _ (by rw [partsD_kinds ho, partsD_kinds ho]) (fun p hp => ⟨partsD_may (mayD_val (fitD_may h)) p hp, partsD_ok hk p hp⟩) (fun p hp => ⟨partsD_may (mayD_val (fitD_may h')) p hp, partsD_ok hk' p hp⟩)

/-- the datom that has parts -/
def datL (o : Int) (l : List PartP) : Dat :=
  ⟨((l[plE o]?).getD (numP 0)).n, ((l[plA o]?).getD (numP 0)).n, ((l[plV o]?).getD (numP 0)).k, ((l[plV o]?).getD (numP 0)).m, ((l[plV o]?).getD (numP 0)).s, ((l[3]?).getD (numP 0)).n, decide (((l[4]?).getD (numP 0)).n = 0), ((l[5]?).getD (numP 0)).n, ((l[6]?).getD (numP 0)).n⟩
def addOk (l : List PartP) : Bool := decide (((l[4]?).getD (numP 0)).n = 0 ∨ ((l[4]?).getD (numP 0)).n = 1)
def readD (o : Int) (b : List UInt8) : Option Dat := match readL (kindsD o) b with
  | none => none
  | some l => if addOk l && fitD o (datL o l) then some (datL o l) else none
theorem datL_parts {o : Int} (h : isO o = true) (d : Dat) : datL o (partsD o d) = d ∧ addOk (partsD o d) = true := by
  obtain ⟨e, a, k, m, s, t, add, fr, til⟩ := d
  rcases isO_cases h with rfl | rfl | rfl | rfl <;> cases add <;> exact ⟨rfl, rfl⟩
/-- Read of Key is the datom. -/
theorem readD_key {o : Int} {d : Dat} (h : fitD o d = true) (hk : DatOk d) : readD o (keyD o d) = some d := by
  have ho := fitD_isO h
  have h1 := read_key (partsD_allMay (o := o) (mayD_val (fitD_may h))) (partsD_ok hk)
  rw [partsD_kinds ho, partsD_clean] at h1
  obtain ⟨h2, h3⟩ := datL_parts ho d
  unfold readD keyD
  rw [h1]
  show (if addOk (partsD o d) && fitD o (datL o (partsD o d)) then some (datL o (partsD o d)) else none) = _
  rw [h2, h3, h]
  rfl

/-- parts that are read are as they are written -/
def CleanL (l : List PartP) : Prop := l.map cleanP = l
theorem num_of_clean {p : PartP} (hc : cleanP p = p) (hv : p.v = false) : p = numP p.n := by
  obtain ⟨v, n, k, m, s⟩ := p
  subst hv
  exact hc.symm
theorem val_of_clean {p : PartP} (hc : cleanP p = p) (hv : p.v = true) : p = ⟨true, 0, p.k, p.m, p.s⟩ := by
  obtain ⟨v, n, k, m, s⟩ := p
  subst hv
  exact hc.symm
theorem list7 {l : List PartP} (h : l.length = 7) : ∃ p0 p1 p2 p3 p4 p5 p6, l = [p0, p1, p2, p3, p4, p5, p6] := by
  match l, h with
  | [p0, p1, p2, p3, p4, p5, p6], _ => exact ⟨_, _, _, _, _, _, _, rfl⟩
theorem cutN_of {n : Int} (h : n = 0 ∨ n = 1) : cutN (decide (n = 0)) = n := by
  rcases h with rfl | rfl <;> rfl
theorem partsD_datL {o : Int} (h : isO o = true) {l : List PartP} (hv : l.map (·.v) = kindsD o) (hc : CleanL l) (ha : addOk l = true) : partsD o (datL o l) = l := by
  have hl : l.length = 7 := by rw [← List.length_map (f := (·.v)), hv, kindsD_len]
  obtain ⟨p0, p1, p2, p3, p4, p5, p6, rfl⟩ := list7 hl
  unfold CleanL at hc
  simp only [List.map_cons, List.map_nil, List.cons.injEq, and_true] at hc
  obtain ⟨c0, c1, c2, c3, c4, c5, c6⟩ := hc
  have ha' : cutN (decide (p4.n = 0)) = p4.n := cutN_of (by unfold addOk at ha; rw [decide_eq_true_eq] at ha; exact ha)
  rcases isO_cases h with rfl | rfl | rfl | rfl
  · have hv' : [p0.v, p1.v, p2.v, p3.v, p4.v, p5.v, p6.v] = [false, false, true, false, false, false, false] := hv
    simp only [List.cons.injEq, and_true] at hv'
    obtain ⟨v0, v1, v2, v3, v4, v5, v6⟩ := hv'
    show [numP p0.n, numP p1.n, ⟨true, 0, p2.k, p2.m, p2.s⟩, numP p3.n, numP (cutN (decide (p4.n = 0))), numP p5.n, numP p6.n] = _
    rw [ha', ← num_of_clean c0 v0, ← num_of_clean c1 v1, ← val_of_clean c2 v2, ← num_of_clean c3 v3, ← num_of_clean c4 v4, ← num_of_clean c5 v5, ← num_of_clean c6 v6]
  · have hv' : [p0.v, p1.v, p2.v, p3.v, p4.v, p5.v, p6.v] = [false, false, true, false, false, false, false] := hv
    simp only [List.cons.injEq, and_true] at hv'
    obtain ⟨v0, v1, v2, v3, v4, v5, v6⟩ := hv'
    show [numP p0.n, numP p1.n, ⟨true, 0, p2.k, p2.m, p2.s⟩, numP p3.n, numP (cutN (decide (p4.n = 0))), numP p5.n, numP p6.n] = _
    rw [ha', ← num_of_clean c0 v0, ← num_of_clean c1 v1, ← val_of_clean c2 v2, ← num_of_clean c3 v3, ← num_of_clean c4 v4, ← num_of_clean c5 v5, ← num_of_clean c6 v6]
  · have hv' : [p0.v, p1.v, p2.v, p3.v, p4.v, p5.v, p6.v] = [false, true, false, false, false, false, false] := hv
    simp only [List.cons.injEq, and_true] at hv'
    obtain ⟨v0, v1, v2, v3, v4, v5, v6⟩ := hv'
    show [numP p0.n, ⟨true, 0, p1.k, p1.m, p1.s⟩, numP p2.n, numP p3.n, numP (cutN (decide (p4.n = 0))), numP p5.n, numP p6.n] = _
    rw [ha', ← num_of_clean c0 v0, ← val_of_clean c1 v1, ← num_of_clean c2 v2, ← num_of_clean c3 v3, ← num_of_clean c4 v4, ← num_of_clean c5 v5, ← num_of_clean c6 v6]
  · have hv' : [p0.v, p1.v, p2.v, p3.v, p4.v, p5.v, p6.v] = [true, false, false, false, false, false, false] := hv
    simp only [List.cons.injEq, and_true] at hv'
    obtain ⟨v0, v1, v2, v3, v4, v5, v6⟩ := hv'
    show [⟨true, 0, p0.k, p0.m, p0.s⟩, numP p1.n, numP p2.n, numP p3.n, numP (cutN (decide (p4.n = 0))), numP p5.n, numP p6.n] = _
    rw [ha', ← val_of_clean c0 v0, ← num_of_clean c1 v1, ← num_of_clean c2 v2, ← num_of_clean c3 v3, ← num_of_clean c4 v4, ← num_of_clean c5 v5, ← num_of_clean c6 v6]
theorem partR_form {v : Bool} {b t : List UInt8} {p : PartP} (h : partR v b = some (p, t)) : p.v = v ∧ cleanP p = p := by
  unfold partR at h
  cases v
  · rw [if_neg (by decide)] at h
    split at h
    · cases h; exact ⟨rfl, rfl⟩
    · cases h
  · rw [if_pos rfl] at h
    cases ho : oneR b with
    | none => rw [ho] at h; cases h
    | some x => rw [ho] at h; cases h; exact ⟨rfl, rfl⟩
theorem tell_form : ∀ (ks : List Bool) (b : List UInt8), (tellL ks b).length = ks.length → ((tellL ks b).map (·.1)).map (·.v) = ks ∧ CleanL ((tellL ks b).map (·.1))
  | [], _, _ => ⟨rfl, rfl⟩
  | v :: ks, b, h => by
    cases hp : partR v b with
    | none =>
      have e : tellL (v :: ks) b = [] := by rw [tellL, hp]
      rw [e] at h
      simp at h
    | some x =>
      obtain ⟨p, t⟩ := x
      have e : tellL (v :: ks) b = (p, t) :: tellL ks t := by rw [tellL, hp]
      rw [e] at h ⊢
      obtain ⟨h1, h2⟩ := tell_form ks t (by simpa using h)
      obtain ⟨g1, g2⟩ := partR_form hp
      unfold CleanL at h2 ⊢
      simp only [List.map_cons, g1, g2]
      exact ⟨by rw [h1], by rw [h2]⟩
theorem readL_form {ks : List Bool} {b : List UInt8} {ps : List PartP} (h : readL ks b = some ps) : ps.map (·.v) = ks ∧ CleanL ps := by
  rw [readL_is] at h
  split at h
  · rename_i hc
    cases h
    exact tell_form ks b hc.1
  · cases h
/-- What the document's Read asks at its end is what this asks. -/
theorem readD_is {o : Int} (h : isO o = true) {b : List UInt8} {l : List PartP} (hr : readL (kindsD o) b = some l) : (fitD o (datL o l) = true ∧ keyD o (datL o l) = b) ↔ (addOk l && fitD o (datL o l)) = true := by
  obtain ⟨h1, h2, h3, h4⟩ := key_read hr
  obtain ⟨h5, h6⟩ := readL_form hr
  rw [Bool.and_eq_true]
  refine ⟨fun ⟨g1, g2⟩ => ⟨?_, g1⟩, fun ⟨g1, g2⟩ => ⟨g2, ?_⟩⟩
  · have hd : DatOk (datL o l) ∨ True := .inr trivial
    clear hd
    have hm := partsD_allMay (o := o) (mayD_val (fitD_may g1))
    have hok : ∀ p ∈ partsD o (datL o l), partOk p := by
      refine partsD_ok ?_
      have hl : l.length = 7 := by rw [← List.length_map (f := (·.v)), h5, kindsD_len]
      have hg : ∀ j, j < 7 → partOk ((l[j]?).getD (numP 0)) := fun j hj => by
        rw [List.getElem?_eq_getElem (by omega)]
        exact h3 _ (List.getElem_mem _)
      have hE : plE o < 7 := by unfold plE; split; · omega
                                split <;> omega
      have hA : plA o < 7 := by unfold plA; split <;> omega
      have hV : plV o < 7 := by unfold plV; split; · omega
                                split <;> omega
      have hk : i64B (datL o l).k := by
        have := mayB_kind (mayD_val (fitD_may g1))
        unfold i64B
        omega
      exact ⟨(hg _ hE).1, (hg _ hA).1, hk, (hg _ hV).2, (hg 3 (by omega)).1, (hg 5 (by omega)).1, (hg 6 (by omega)).1⟩
    have hr2 := read_key hm hok
    rw [partsD_kinds h, partsD_clean] at hr2
    have g3 : keyB (partsD o (datL o l)) = b := g2
    rw [g3, hr] at hr2
    have e := Option.some.inj hr2
    rw [e]
    exact (datL_parts h _).2
  · show keyB (partsD o (datL o l)) = b
    rw [partsD_datL h h5 h6 g1]
    exact h1
theorem readD_no {o : Int} {b : List UInt8} (h : readL (kindsD o) b = none) : readD o b = none := by unfold readD; rw [h]
theorem readD_some {o : Int} {b : List UInt8} {l : List PartP} (h : readL (kindsD o) b = some l) : readD o b = if (addOk l && fitD o (datL o l)) = true then some (datL o l) else none := by unfold readD; rw [h]
/-- What is read may be, and is written as the bytes. -/
theorem readD_back {o : Int} (h : isO o = true) {b : List UInt8} {d : Dat} (hr : readD o b = some d) : fitD o d = true ∧ keyD o d = b ∧ DatOk d ∧ d.s.size ≤ 1000 := by
  cases hl : readL (kindsD o) b with
  | none => rw [readD_no hl] at hr; cases hr
  | some l =>
    rw [readD_some hl] at hr
    split at hr
    · rename_i hc
      cases hr
      obtain ⟨g1, g2⟩ := (readD_is h hl).2 hc
      refine ⟨g1, g2, ?_, mayB_size (mayD_val (fitD_may g1))⟩
      obtain ⟨h1, h2, h3, h4⟩ := key_read hl
      obtain ⟨h5, h6⟩ := readL_form hl
      have hll : l.length = 7 := by rw [← List.length_map (f := (·.v)), h5, kindsD_len]
      have hg : ∀ j, j < 7 → partOk ((l[j]?).getD (numP 0)) := fun j hj => by
        rw [List.getElem?_eq_getElem (by omega)]
        exact h3 _ (List.getElem_mem _)
      have hE : plE o < 7 := by unfold plE; split; · omega
                                split <;> omega
      have hA : plA o < 7 := by unfold plA; split <;> omega
      have hV : plV o < 7 := by unfold plV; split; · omega
                                split <;> omega
      have hk : i64B (datL o l).k := by
        have := mayB_kind (mayD_val (fitD_may g1))
        unfold i64B
        omega
      exact ⟨(hg _ hE).1, (hg _ hA).1, hk, (hg _ hV).2, (hg 3 (by omega)).1, (hg 5 (by omega)).1, (hg 6 (by omega)).1⟩
    · cases hr
end Go.Proofs.Ytkoknogefmfmnaa
