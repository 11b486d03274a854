/-
  CONTRACT: the law's closure that Select is handed.
-/
import Derived.Test.YtafnhhbdcleihaaZRefProj
namespace Go.Proofs.Ytafnhhbdcleihaa
open Go.RowKit

/-- only two cells' blocks, and blocks from B on, turn -/
structure KpS (bN bO B : Nat) (W W' : World) : Prop where
  os : W'.os = W.os
  tape : W'.tape = W.tape
  output : W'.output = W.output
  size : W.heap.size ≤ W'.heap.size
  b : ∀ j, j < W.heap.size → j < B → j ≠ bN → j ≠ bO → W'.heap[j]? = W.heap[j]?
theorem KpS.refl (bN bO B : Nat) (W : World) : KpS bN bO B W W := ⟨rfl, rfl, rfl, Nat.le_refl _, fun _ _ _ _ _ => rfl⟩
theorem KpS.trans {bN bO B : Nat} {a b c : World} (h : KpS bN bO B a b) (k : KpS bN bO B b c) : KpS bN bO B a c :=
  ⟨k.os.trans h.os, k.tape.trans h.tape, k.output.trans h.output, Nat.le_trans h.size k.size, fun j h1 h2 h3 h4 => (k.b j (Nat.lt_of_lt_of_le h1 h.size) h2 h3 h4).trans (h.b j h1 h2 h3 h4)⟩
theorem KpS.mono {bN bO B B' : Nat} {a b : World} (h : KpS bN bO B a b) (hB : B' ≤ B) : KpS bN bO B' a b := ⟨h.os, h.tape, h.output, h.size, fun j h1 h2 => h.b j h1 (by omega)⟩
theorem KpS.of_below {bN bO B B' : Nat} {W W' : World} (h : Below B' W W') (hB : B ≤ B') : KpS bN bO B W W' := ⟨h.os, h.tape, h.output, h.size, fun j _ h2 _ _ => h.block j (by omega)⟩
theorem heap_set (W : World) (p : Addr) (u : Value) (j : Nat) (h : j ≠ p.block) : (W.setCell p u).heap[j]? = W.heap[j]? := Below.heap_setCell W p u j h
theorem KpS.set {bN bO B : Nat} {W W' : World} (h : KpS bN bO B W W') (p : Addr) (u : Value) (hp : p.block = bN ∨ p.block = bO ∨ B ≤ p.block) : KpS bN bO B W (W'.setCell p u) :=
  ⟨h.os, h.tape, h.output, by simpa using h.size, fun j h1 h2 h3 h4 => (heap_set W' p u j (by omega)).trans (h.b j h1 h2 h3 h4)⟩
theorem KpS.below {bN bO B n0 : Nat} {W W' : World} (h : KpS bN bO B W W') (h1 : n0 ≤ bN) (h2 : n0 ≤ bO) (h3 : n0 ≤ B) (h4 : n0 ≤ W.heap.size) : Below n0 W W' :=
  ⟨h.os, h.tape, h.output, h.size, fun j hj => h.b j (by omega) (by omega) (by omega) (by omega)⟩
theorem KpS.owns {bN bO B B0 : Nat} {W W' : World} {t : TypeId} {k n : Nat} {v : Value} {xs : List Value} (h : KpS bN bO B W W') (ho : W.ownsRow B0 t k v n xs) (h1 : bN < B0) (h2 : bO < B0) (hB : W.heap.size ≤ B) : W'.ownsRow B0 t k v n xs := by
  refine ⟨ho.1, ?_⟩
  rcases ho.2 with h0 | ⟨g, cap, cur, e1, e2, e3, e4⟩
  · exact .inl h0
  · have hl := (Array.getElem?_eq_some_iff.1 e3).1
    exact .inr ⟨g, cap, cur, e1, e2, (h.b g hl (by omega) (by omega) (by omega)).trans e3, e4⟩
theorem KpS.ownR {bN bO B B0 : Nat} {W W' : World} {v : Value} {R : List Rw} (h : KpS bN bO B W W') (ho : OwnR W B0 v R) (h1 : bN < B0) (h2 : bO < B0) (hB : W.heap.size ≤ B) : OwnR W' B0 v R :=
  ⟨h.owns ho.o h1 h2 hB, fun x hx => h.owns (ho.i x hx) h1 h2 hB, ho.z⟩
theorem KpS.cell {bN bO B : Nat} {W W' : World} (h : KpS bN bO B W W') {p : Addr} (h1 : p.block < W.heap.size) (h2 : p.block < B) (h3 : p.block ≠ bN) (h4 : p.block ≠ bO) : W'.cell? p = W.cell? p := by
  unfold World.cell?
  rw [h.b p.block h1 h2 h3 h4]
theorem KpS.frozen {bN bO B : Nat} {W W' : World} (h : KpS bN bO B W W') {p : Addr} (h1 : p.block < W.heap.size) (h2 : p.block < B) (h3 : p.block ≠ bN) (h4 : p.block ≠ bO) : W'.frozen? p = W.frozen? p := by
  unfold World.frozen?
  rw [h.b p.block h1 h2 h3 h4]
/-- what the closure keeps: how often it was asked; as yet all was told in order -/
structure SelSt (bN bO n : Nat) (W : World) : Prop where
  c : W.cell? ⟨bN, 0, none⟩ = some (.int .i64 (n : Int))
  cf : W.frozen? ⟨bN, 0, none⟩ = false
  o : W.cell? ⟨bO, 0, none⟩ = some (.bool true)
  of : W.frozen? ⟨bO, 0, none⟩ = false
theorem SelSt.next {bN bO n B : Nat} {W W' : World} (h : SelSt bN bO n W) (hb : Below B W W') (h1 : bN < B) (h2 : bO < B) : SelSt bN bO n W' :=
  ⟨(hb.cell (p := ⟨bN, 0, none⟩) h1).trans h.c, (hb.frozen (p := ⟨bN, 0, none⟩) h1).trans h.cf, (hb.cell (p := ⟨bO, 0, none⟩) h2).trans h.o, (hb.frozen (p := ⟨bO, 0, none⟩) h2).trans h.of⟩
theorem SelSt.set {bN bO n : Nat} {W : World} (h : SelSt bN bO n W) (p : Addr) (u : Value) (h1 : bN ≠ p.block) (h2 : bO ≠ p.block) : SelSt bN bO n (W.setCell p u) :=
  ⟨(World.cell?_setCell_other _ _ _ _ (by intro e; exact h1 (by rw [e]))).trans h.c, by simpa using h.cf, (World.cell?_setCell_other _ _ _ _ (by intro e; exact h2 (by rw [e]))).trans h.o, by simpa using h.of⟩
/-- is a row, told as the n-th, wanted? -/
def wantB (n : Nat) : Bool := ((n : Int) + 1) % 3 != 0
set_option maxRecDepth 100000 in
set_option maxHeartbeats 4000000 in
theorem clo_any (bx bN bO B : Nat) (x r : Rw) (A1 : Option Addr) (c1 : Nat) (R : List Rw) (n : Nat) (W : World) (hst : SelSt bN bO n W) (h1 : bx < bN) (h2 : bN < bO) (h3 : bO < B) (hB : B ≤ W.heap.size)
    (hbx : W.cell? ⟨bx, 1, none⟩ = some (.slice A1 R.length c1)) (hR : SlR W bN A1 R) (hx : OwnV W B (cellR x) x.l) (hz : zOk x.l) (hn : R[n]? = some r) (he : x.l = r.l) (hl : R.length ≤ 1000000000) (hxl : x.l.length ≤ 1000000000) :
    Calls Try.prog 24 #[cellR x, .pointer (some ⟨bO, 0, none⟩), .pointer (some ⟨bN, 0, none⟩), .pointer (some ⟨bx, 0, none⟩)] W fun e W' => e = .returned (.bool (wantB n)) ∧ SelSt bN bO (n + 1) W' ∧ KpS bN bO B W W' := by
  have hnl := (List.getElem?_eq_some_iff.1 hn).1
  have hni : (n : Int) < (R.length : Int) := by omega
  obtain ⟨b, o, rfl, hb, hc⟩ := hR.s (by intro e; rw [e] at hnl; simp at hnl)
  have hp := hc n r hn
  have hrok : RwOk W W.heap.size r := (hR.r r (List.mem_of_getElem? hn)).more (by omega)
  have HCC := Lib.hid (refCmpR_any x r W (hx.rwOk hz) hrok)
  rw [he, (ordR_is.zero _ _).2 rfl] at HCC
  have HWR : Hid (WrN W B W.heap.size x.A (x.l.length * 3)) := owns_wr hx (flatV_len _)
  have HST := Lib.hid hst
  have s0 := hst.c
  have s1 := hst.o
  have s2 := hst.of
  have HLT := Lib.hid (show bx < bN ∧ bN < bO ∧ bO < B ∧ B ≤ W.heap.size from ⟨h1, h2, h3, hB⟩)
  have hw : IntKind.i64.wrap ((n : Int) + 1) = ((n + 1 : Nat) : Int) := by
    rw [show ((n + 1 : Nat) : Int) = (n : Int) + 1 from by omega]; exact IntWalk.i64_in _ (by omega)
  obtain ⟨A2, c2, l2⟩ := x
  obtain ⟨A3, c3, l3⟩ := r
  unfold cellR at hp HCC ⊢
  simp only at he hxl HWR hp HCC ⊢
  clear hst hx hz hn hR hrok hc he
  go_enter Try.func24, Try.ntmps24
  go_wp2_with fail
  refine HCC.out.mono ?_
  rintro e w1 ⟨rfl, hb1⟩
  have HB1 := Lib.hid hb1
  have HST1 : Hid (SelSt bN bO n w1) := HST.out.next hb1 (by omega) (by omega)
  have y0 := HST1.out.c
  have y1 := HST1.out.o
  have y2 := HST1.out.of
  clear hb1 s0 s1 s2 hp hbx
  go_upto_region 2 with fail
  obtain ⟨w2, hw2⟩ : ∃ w2, w1.setCell ⟨bO, 0, none⟩ (.bool true) = w2 := ⟨_, rfl⟩
  have HK2 : Hid (KpS bN bO B W w2 ∧ W.heap.size ≤ w2.heap.size) := by
    rw [← hw2]
    exact ⟨(KpS.of_below HB1.out HLT.out.2.2.2).set _ _ (.inr (.inl rfl)), by simpa using HB1.out.size⟩
  have HST2 : Hid (SelSt bN bO n w2) := by
    rw [← hw2]
    exact ⟨(World.cell?_setCell_other _ _ _ _ (by intro e; injection e with e; omega)).trans HST1.out.c, by simpa using HST1.out.cf, World.cell?_setCell_same _ _ _ HST1.out.o, by simpa using HST1.out.of⟩
  have HW2 : Hid (WrN w2 B W.heap.size A2 (l2.length * 3)) := by
    rw [← hw2]
    exact (HWR.out.next HB1.out).set _ _
  rw [hw2]
  clear hw2 y0 y1 y2
  have y0 := HST2.out.c
  have y1 := HST2.out.cf
  go_upto_region 4 with fail
  obtain ⟨w3, hw3⟩ : ∃ w3, w2.setCell ⟨bN, 0, none⟩ (.int .i64 ((n : Int) + 1)) = w3 := ⟨_, rfl⟩
  have HK3 : Hid (KpS bN bO B W w3 ∧ W.heap.size ≤ w3.heap.size) := by
    rw [← hw3]
    exact ⟨HK2.out.1.set _ _ (.inl rfl), by simpa using HK2.out.2⟩
  have HST3 : Hid (SelSt bN bO (n + 1) w3) := by
    rw [← hw3]
    exact ⟨World.cell?_setCell_same _ _ _ HST2.out.c, by simpa using HST2.out.cf, (World.cell?_setCell_other _ _ _ _ (by intro e; injection e with e; omega)).trans HST2.out.o, by simpa using HST2.out.of⟩
  have HW3 : Hid (WrN w3 B W.heap.size A2 (l2.length * 3)) := by
    rw [← hw3]
    exact HW2.out.set _ _
  rw [hw3]
  have HQ : Hid ((((n : Int) + 1) % 3 != 0) = wantB n) := rfl
  obtain ⟨q, hq⟩ : ∃ q, (((n : Int) + 1) % 3 != 0) = q := ⟨_, rfl⟩
  rw [hq] at HQ ⊢
  have hl2 : (l2.length : Int) ≤ 1000000000 := by omega
  clear hw3 y0 y1 hq hw hni
  go_wp2
  go_loopg [33] l2.length (fun g x33 wr => ∃ k : Nat, x33 = .int .i64 k ∧ k + g = l2.length ∧ Hid (KpS bN bO B W wr) ∧ Hid (SelSt bN bO (n + 1) wr) ∧ Hid (WrN wr B W.heap.size A2 (l2.length * 3)))
  case atStart => exact ⟨0, rfl, by omega, HK3.out.1, HST3.out, HW3.out⟩
  case round =>
    obtain ⟨k, rfl, hk, HK, HS, HW⟩ := hrel
    cases gk with
    | succ g =>
      have hki : (k : Int) < (l2.length : Int) := by omega
      have hkn : k < l2.length := by omega
      obtain ⟨bi, hbi, hB1, hM1, hcs⟩ := HW.out (by omega)
      obtain ⟨⟨s0, g0⟩, ⟨s1, g1⟩, s2, g2⟩ := show ((wr.cell? ⟨bi, k * 3, none⟩).isSome = true ∧ wr.frozen? ⟨bi, k * 3, none⟩ = false) ∧ ((wr.cell? ⟨bi, k * 3 + 1, none⟩).isSome = true ∧ wr.frozen? ⟨bi, k * 3 + 1, none⟩ = false) ∧ ((wr.cell? ⟨bi, k * 3 + 2, none⟩).isSome = true ∧ wr.frozen? ⟨bi, k * 3 + 2, none⟩ = false) from ⟨hcs (k * 3) (by omega), hcs (k * 3 + 1) (by omega), hcs (k * 3 + 2) (by omega)⟩
      obtain ⟨v0, s0⟩ := Option.isSome_iff_exists.1 s0
      obtain ⟨v1, s1⟩ := Option.isSome_iff_exists.1 s1
      obtain ⟨v2, s2⟩ := Option.isSome_iff_exists.1 s2
      have HN : Hid (KpS bN bO B W (((wr.setCell ⟨bi, k * 3, none⟩ (.int .i64 98)).setCell ⟨bi, k * 3 + 1, none⟩ (.int .i64 0)).setCell ⟨bi, k * 3 + 2, none⟩ (.string ⟨#[]⟩)) ∧ SelSt bN bO (n + 1) (((wr.setCell ⟨bi, k * 3, none⟩ (.int .i64 98)).setCell ⟨bi, k * 3 + 1, none⟩ (.int .i64 0)).setCell ⟨bi, k * 3 + 2, none⟩ (.string ⟨#[]⟩)) ∧ WrN (((wr.setCell ⟨bi, k * 3, none⟩ (.int .i64 98)).setCell ⟨bi, k * 3 + 1, none⟩ (.int .i64 0)).setCell ⟨bi, k * 3 + 2, none⟩ (.string ⟨#[]⟩)) B W.heap.size A2 (l2.length * 3)) := by
        have e1 : bN ≠ bi := by omega
        have e2 : bO ≠ bi := by omega
        exact ⟨((HK.out.set _ _ (.inr (.inr hB1))).set _ _ (.inr (.inr hB1))).set _ _ (.inr (.inr hB1)), ((HS.out.set _ _ e1 e2).set _ _ e1 e2).set _ _ e1 e2, ((HW.out.set _ _).set _ _).set _ _⟩
      subst hbi
      clear hcs hB1 hM1
      go_wp2
      go_roundg g
      case measure => omega
      case rel => exact ⟨k + 1, by go_num, by omega, HN.out.1, HN.out.2.1, HN.out.2.2⟩
    | zero =>
      have hki : ¬ (k : Int) < (l2.length : Int) := by omega
      go_wp2
      go_ret
      exact ⟨ret_bool HQ.out, HS.out, HK.out⟩
end Go.Proofs.Ytafnhhbdcleihaa
