/-
  CONTRACT: readPart (the program's).
-/
import Derived.Test.YtdlkblnnnmgijaaORdVal
namespace Go.Proofs.Ytdlkblnnnmgijaa
open Go.RowKit Go.Shelf

/-- a part as a whole -/
def partV (p : PartP) : Value := .agg #[.bool p.v, .int .i64 p.n, .int .i64 p.k, .int .i64 p.m, .string p.s]
/-- What readPart answers. -/
def PartRd (W : World) (B : Nat) (v : Bool) (l : List UInt8) (e : Ending) (w' : World) : Prop :=
  ((∃ p t r, partR v l = some (p, t) ∧ e = .returned (.tuple #[partV p, r, .bool true]) ∧ Rest w' B r t) ∨
  (partR v l = none ∧ ∃ p r, e = .returned (.tuple #[partV p, r, .bool false]))) ∧ Below W.heap.size W w'
theorem PartBox.fz {W : World} {b : Nat} {p : PartP} (h : PartBox W b p) (j : Nat) : W.frozen? ⟨b, j, none⟩ = false := by unfold PartBox at h; simp [World.frozen?, h]
theorem PartBox.row {W : World} {b : Nat} {p : PartP} (h : PartBox W b p) (cs : Array Value) : (W.setRow b cs).heap[b]? = some (.cells cs 40 (0, 0)) := setRow_heap _ _ _ _ _ _ h
theorem PartBox.set {W : World} {b : Nat} {p : PartP} (h : PartBox W b p) (q : PartP) : PartBox (((((W.setCell ⟨b, 0, none⟩ (.bool q.v)).setCell ⟨b, 1, none⟩ (.int .i64 q.n)).setCell ⟨b, 2, none⟩ (.int .i64 q.k)).setCell ⟨b, 3, none⟩ (.int .i64 q.m)).setCell ⟨b, 4, none⟩ (.string q.s)) b q := by
  have e0 := setCell_eq_setRow W b 0 _ _ (0, 0) (.bool q.v) h
  rw [e0]
  have h0 := h.row ((#[Value.bool p.v, .int .i64 p.n, .int .i64 p.k, .int .i64 p.m, .string p.s] : Array Value).setIfInBounds 0 (.bool q.v))
  have e1 := setCell_eq_setRow _ b 1 _ _ (0, 0) (.int .i64 q.n) h0
  rw [e1, setRow_setRow]
  have h1 := h.row (((#[Value.bool p.v, .int .i64 p.n, .int .i64 p.k, .int .i64 p.m, .string p.s] : Array Value).setIfInBounds 0 (.bool q.v)).setIfInBounds 1 (.int .i64 q.n))
  have e2 := setCell_eq_setRow _ b 2 _ _ (0, 0) (.int .i64 q.k) h1
  rw [e2, setRow_setRow]
  have h2 := h.row ((((#[Value.bool p.v, .int .i64 p.n, .int .i64 p.k, .int .i64 p.m, .string p.s] : Array Value).setIfInBounds 0 (.bool q.v)).setIfInBounds 1 (.int .i64 q.n)).setIfInBounds 2 (.int .i64 q.k))
  have e3 := setCell_eq_setRow _ b 3 _ _ (0, 0) (.int .i64 q.m) h2
  rw [e3, setRow_setRow]
  have h3 := h.row (((((#[Value.bool p.v, .int .i64 p.n, .int .i64 p.k, .int .i64 p.m, .string p.s] : Array Value).setIfInBounds 0 (.bool q.v)).setIfInBounds 1 (.int .i64 q.n)).setIfInBounds 2 (.int .i64 q.k)).setIfInBounds 3 (.int .i64 q.m))
  have e4 := setCell_eq_setRow _ b 4 _ _ (0, 0) (.string q.s) h3
  rw [e4, setRow_setRow]
  have h4 := h.row ((((((#[Value.bool p.v, .int .i64 p.n, .int .i64 p.k, .int .i64 p.m, .string p.s] : Array Value).setIfInBounds 0 (.bool q.v)).setIfInBounds 1 (.int .i64 q.n)).setIfInBounds 2 (.int .i64 q.k)).setIfInBounds 3 (.int .i64 q.m)).setIfInBounds 4 (.string q.s))
  exact h4
theorem below_set5 {W : World} {B b : Nat} (hb : B ≤ b) (u0 u1 u2 u3 u4 : Value) {w : World} (h : Below B w W) : Below B w (((((W.setCell ⟨b, 0, none⟩ u0).setCell ⟨b, 1, none⟩ u1).setCell ⟨b, 2, none⟩ u2).setCell ⟨b, 3, none⟩ u3).setCell ⟨b, 4, none⟩ u4) :=
  ((((h.setCell (p := ⟨b, 0, none⟩) hb _).setCell (p := ⟨b, 1, none⟩) hb _).setCell (p := ⟨b, 2, none⟩) hb _).setCell (p := ⟨b, 3, none⟩) hb _).setCell (p := ⟨b, 4, none⟩) hb _
def zeroP : PartP := ⟨false, 0, 0, 0, ⟨#[]⟩⟩

set_option maxRecDepth 100000 in
set_option maxHeartbeats 2000000 in
theorem readPart_num (A : Option Addr) (cp : Nat) (l : List UInt8) (W : World) (B : Nat) (hBW : B ≤ W.heap.size) (hs : SlB W B A l) (hlc : l.length ≤ cp) (hc : cp ≤ maxLen) :
    Calls Try.prog 85 #[.slice A l.length cp, .bool false] W (PartRd W B false l) := by
  have HR0 := Lib.hid (partBox_new W zeroP)
  obtain ⟨w1, hw1⟩ : ∃ w1, W.alloc (.cells #[.bool false, .int .i64 0, .int .i64 0, .int .i64 0, .string ⟨#[]⟩] 40) = w1 := ⟨_, rfl⟩
  have HR1 : Hid (PartBox w1 W.heap.size zeroP) := by rw [← hw1]; exact HR0.out
  have HB1 : Hid (Below W.heap.size W w1) := by rw [← hw1]; exact (Below.refl _ _).alloc (Nat.le_refl _) _
  have HLT : Hid (W.heap.size < w1.heap.size) := by show _ < _; rw [← hw1]; simp
  have HW1 := Lib.hid hw1
  clear hw1 HR0
  go_enter Try.func85, Try.ntmps85
  go_upto_region 1 with (fail)
  rw [HW1.out]
  go_wp2_with fail
  refine (readNumber_any A cp l w1 B (Nat.le_trans hBW HB1.out.size) (hs.next HB1.out hBW) hlc hc).mono ?_
  rintro e w3 (⟨hT, ⟨r, rfl, hr⟩, hb⟩ | ⟨hT, rfl, hb⟩)
  · have hx := HR1.out.next hb HLT.out
    have g0 := hx.cell 0
    have g1 := hx.cell 1
    have g2 := hx.cell 2
    have g3 := hx.cell 3
    have g4 := hx.cell 4
    simp at g0 g1 g2 g3 g4
    have z0 := hx.fz 0
    have z1 := hx.fz 1
    have z2 := hx.fz 2
    have z3 := hx.fz 3
    have z4 := hx.fz 4
    have HX := Lib.hid (hx.set ⟨false, numR l, 0, 0, ⟨#[]⟩⟩)
    have HB3 := Lib.hid (HB1.out.trans (hb.mono HB1.out.size))
    have HR := Lib.hid hr
    have HT := Lib.hid hT
    clear hx hb hr hT
    go_wp2
    refine bodyPost_ret (v := .tuple #[partV ⟨false, numR l, 0, 0, ⟨#[]⟩⟩, r, .bool true]) ?_ rfl ?_
    · rw [results_cell_tmp2 rfl]
      have h0 := HX.out.cell 0
      have h1 := HX.out.cell 1
      have h2 := HX.out.cell 2
      have h3 := HX.out.cell 3
      have h4 := HX.out.cell 4
      simp at h0 h1 h2 h3 h4
      unfold partV
      go_simp
    · refine ⟨.inl ⟨_, _, r, (by unfold partR; rw [if_neg (by decide), if_pos HT.out]), rfl, ?_⟩, below_set5 (Nat.le_refl _) _ _ _ _ _ HB3.out⟩
      exact HR.out.next (below_set5 (Nat.le_refl _) _ _ _ _ _ (Below.refl W.heap.size _)) hBW
  · have hx := HR1.out.next hb HLT.out
    have g0 := hx.cell 0
    have g1 := hx.cell 1
    have g2 := hx.cell 2
    have g3 := hx.cell 3
    have g4 := hx.cell 4
    simp at g0 g1 g2 g3 g4
    have z0 := hx.fz 0
    have z1 := hx.fz 1
    have z2 := hx.fz 2
    have z3 := hx.fz 3
    have z4 := hx.fz 4
    have HX := Lib.hid (hx.set zeroP)
    have HB3 := Lib.hid (HB1.out.trans (hb.mono HB1.out.size))
    have HT := Lib.hid hT
    clear hx hb hT
    go_wp2
    refine bodyPost_ret (v := .tuple #[partV zeroP, .slice none 0 0, .bool false]) ?_ rfl ?_
    · rw [results_cell_tmp2 rfl]
      have h0 := HX.out.cell 0
      have h1 := HX.out.cell 1
      have h2 := HX.out.cell 2
      have h3 := HX.out.cell 3
      have h4 := HX.out.cell 4
      simp [zeroP] at h0 h1 h2 h3 h4
      unfold partV zeroP
      go_simp
    · exact ⟨.inr ⟨(by unfold partR; rw [if_neg (by decide), if_neg (by have := HT.out; omega)]), _, _, rfl⟩, below_set5 (Nat.le_refl _) _ _ _ _ _ HB3.out⟩
set_option maxRecDepth 100000 in
set_option maxHeartbeats 2000000 in
theorem readPart_val (A : Option Addr) (cp : Nat) (l : List UInt8) (W : World) (B : Nat) (hBW : B ≤ W.heap.size) (hs : SlB W B A l) (hlc : l.length ≤ cp) (hc : cp ≤ maxLen) (hl : l.length ≤ 10000) :
    Calls Try.prog 85 #[.slice A l.length cp, .bool true] W (PartRd W B true l) := by
  have HR0 := Lib.hid (partBox_new W zeroP)
  obtain ⟨w1, hw1⟩ : ∃ w1, W.alloc (.cells #[.bool false, .int .i64 0, .int .i64 0, .int .i64 0, .string ⟨#[]⟩] 40) = w1 := ⟨_, rfl⟩
  have HR1 : Hid (PartBox w1 W.heap.size zeroP) := by rw [← hw1]; exact HR0.out
  have HB1 : Hid (Below W.heap.size W w1) := by rw [← hw1]; exact (Below.refl _ _).alloc (Nat.le_refl _) _
  have HLT : Hid (W.heap.size < w1.heap.size) := by show _ < _; rw [← hw1]; simp
  have HW1 := Lib.hid hw1
  clear hw1 HR0
  go_enter Try.func85, Try.ntmps85
  go_upto_region 1 with (fail)
  rw [HW1.out]
  go_wp2_with fail
  refine (readValue_any A cp l w1 B (Nat.le_trans hBW HB1.out.size) (hs.next HB1.out hBW) hlc hc hl).mono ?_
  rintro e w3 ⟨h, hb⟩
  unfold valV at h
  rcases h with ⟨k, n, s, t, r, hT, rfl, hr⟩ | ⟨hT, k, n, s, r, rfl⟩
  · obtain ⟨w4, hw4⟩ : ∃ w4, w3.alloc (.cells #[.int .i64 k, .int .i64 n, .string ⟨s.toArray⟩] 24) = w4 := ⟨_, rfl⟩
    have HB34 : Hid (Below w3.heap.size w3 w4) := by rw [← hw4]; exact (Below.refl _ _).alloc (Nat.le_refl _) _
    have HV4 : Hid (ValAt w4 w3.heap.size k n ⟨s.toArray⟩) := by rw [← hw4]; exact valAt_new w3 k n ⟨s.toArray⟩
    have hx := (HR1.out.next hb HLT.out).next HB34.out (Nat.lt_of_lt_of_le HLT.out hb.size)
    have g0 := hx.cell 0
    have g1 := hx.cell 1
    have g2 := hx.cell 2
    have g3 := hx.cell 3
    have g4 := hx.cell 4
    simp at g0 g1 g2 g3 g4
    have z0 := hx.fz 0
    have z1 := hx.fz 1
    have z2 := hx.fz 2
    have z3 := hx.fz 3
    have z4 := hx.fz 4
    have k0 := HV4.out.c0
    have k1 := HV4.out.c1
    have k2 := HV4.out.c2
    have HX := Lib.hid (hx.set ⟨true, 0, k, n, ⟨s.toArray⟩⟩)
    have HB3 := Lib.hid (HB1.out.trans ((hb.mono HB1.out.size).trans (HB34.out.mono (Nat.le_trans HB1.out.size hb.size))))
    have HW4 := Lib.hid hw4
    have hbz : W.heap.size ≤ w3.heap.size := Nat.le_trans HB1.out.size hb.size
    have HR := Lib.hid (hr.next HB34.out (Nat.le_trans hBW hbz))
    have HT := Lib.hid hT
    clear hx hb hw4 hr hT
    go_upto_region 3 with (fail)
    rw [HW4.out]
    go_wp2
    refine bodyPost_ret (v := .tuple #[partV ⟨true, 0, k, n, ⟨s.toArray⟩⟩, r, .bool true]) ?_ rfl ?_
    · rw [results_cell_tmp2 rfl]
      have h0 := HX.out.cell 0
      have h1 := HX.out.cell 1
      have h2 := HX.out.cell 2
      have h3 := HX.out.cell 3
      have h4 := HX.out.cell 4
      simp at h0 h1 h2 h3 h4
      unfold partV
      go_simp
    · refine ⟨.inl ⟨_, _, r, (by unfold partR; rw [if_pos rfl, HT.out]; rfl), rfl, ?_⟩, below_set5 (Nat.le_refl _) _ _ _ _ _ HB3.out⟩
      exact HR.out.next (below_set5 (Nat.le_refl _) _ _ _ _ _ (Below.refl W.heap.size _)) hBW
  · obtain ⟨w4, hw4⟩ : ∃ w4, w3.alloc (.cells #[.int .i64 k, .int .i64 n, .string s] 24) = w4 := ⟨_, rfl⟩
    have HB34 : Hid (Below w3.heap.size w3 w4) := by rw [← hw4]; exact (Below.refl _ _).alloc (Nat.le_refl _) _
    have HV4 : Hid (ValAt w4 w3.heap.size k n s) := by rw [← hw4]; exact valAt_new w3 k n s
    have hx := (HR1.out.next hb HLT.out).next HB34.out (Nat.lt_of_lt_of_le HLT.out hb.size)
    have g0 := hx.cell 0
    have g1 := hx.cell 1
    have g2 := hx.cell 2
    have g3 := hx.cell 3
    have g4 := hx.cell 4
    simp at g0 g1 g2 g3 g4
    have z0 := hx.fz 0
    have z1 := hx.fz 1
    have z2 := hx.fz 2
    have z3 := hx.fz 3
    have z4 := hx.fz 4
    have k0 := HV4.out.c0
    have k1 := HV4.out.c1
    have k2 := HV4.out.c2
    have HX := Lib.hid (hx.set ⟨true, 0, k, n, s⟩)
    have HB3 := Lib.hid (HB1.out.trans ((hb.mono HB1.out.size).trans (HB34.out.mono (Nat.le_trans HB1.out.size hb.size))))
    have HW4 := Lib.hid hw4
    have hbz : W.heap.size ≤ w3.heap.size := Nat.le_trans HB1.out.size hb.size
    have HT := Lib.hid hT
    clear hx hb hw4 hT
    go_upto_region 3 with (fail)
    rw [HW4.out]
    go_wp2
    refine bodyPost_ret (v := .tuple #[partV ⟨true, 0, k, n, s⟩, r, .bool false]) ?_ rfl ?_
    · rw [results_cell_tmp2 rfl]
      have h0 := HX.out.cell 0
      have h1 := HX.out.cell 1
      have h2 := HX.out.cell 2
      have h3 := HX.out.cell 3
      have h4 := HX.out.cell 4
      simp at h0 h1 h2 h3 h4
      unfold partV
      go_simp
    · exact ⟨.inr ⟨(by unfold partR; rw [if_pos rfl, HT.out]; rfl), _, _, rfl⟩, below_set5 (Nat.le_refl _) _ _ _ _ _ HB3.out⟩

theorem readPart_any (v : Bool) (A : Option Addr) (cp : Nat) (l : List UInt8) (W : World) (B : Nat) (hBW : B ≤ W.heap.size) (hs : SlB W B A l) (hlc : l.length ≤ cp) (hc : cp ≤ maxLen) (hl : l.length ≤ 10000) :
    Calls Try.prog 85 #[.slice A l.length cp, .bool v] W (PartRd W B v l) := by
  cases v
  · exact readPart_num A cp l W B hBW hs hlc hc
  · exact readPart_val A cp l W B hBW hs hlc hc hl
end Go.Proofs.Ytdlkblnnnmgijaa
