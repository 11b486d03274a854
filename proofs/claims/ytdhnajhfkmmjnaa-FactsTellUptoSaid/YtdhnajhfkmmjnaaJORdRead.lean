import Derived.Test.YtdhnajhfkmmjnaaJORdNum
import Derived.Test.YtdhnajhfkmmjnaaJOrdRef
import Derived.Test.YtdhnajhfkmmjnaaJRegion
import Derived.Shelf.Bytes.SlIndexAt
import Derived.Lib.IndexLaws
import Derived.WalkMore
import Derived.Laws.AppendOwnNone
import Derived.Test.YtdhnajhfkmmjnaaJOKey
import Derived.Test.YtdhnajhfkmmjnaaJOBack
import Derived.OwnWalkIn
import Derived.RangeFuncNested
import Derived.Test.YtdhnajhfkmmjnaaJOEnd
/-
  CONTRACT: Compare of two lists of parts (the document's).
-/
namespace Go.Proofs.Ytdhnajhfkmmjnaa
open Go.RowKit Go.Shelf

/-- how two lists of parts stand from a place on -/
def ordPF (a b : List PartP) (j : Nat) : Int := ordK (a.drop j) (b.drop j)
theorem ordPF_step {a b : List PartP} {j : Nat} (h : j < a.length) (h' : j < b.length) : ordPF a b j = if ordP a[j] b[j] = 0 then ordPF a b (j + 1) else ordP a[j] b[j] := by
  unfold ordPF
  rw [List.drop_eq_getElem_cons h, List.drop_eq_getElem_cons h', ordK]
theorem ordPF_end {a b : List PartP} {j : Nat} (h : a.length ≤ j ∨ b.length ≤ j) : ordPF a b j = 0 := by
  unfold ordPF
  rcases h with h | h
  · rw [List.drop_of_length_le h]; cases b.drop j <;> rfl
  · rw [List.drop_of_length_le h]; cases a.drop j <;> rfl
theorem ordP_num {p q : PartP} (h : p.v = false) : ordP p q = ordI p.n q.n := by unfold ordP; rw [h]; rfl
theorem ordP_val {p q : PartP} (h : p.v = true) : ordP p q = ordV p.k p.m p.s q.k q.m q.s := by unfold ordP; rw [h]; rfl
theorem below_dr {B : Nat} {a w : World} (h : Below B a w) : Below B a w.drew := ⟨h.os, h.tape, h.output, h.size, h.block⟩

theorem s6n {B : Nat} {w W W' : World} {b b' o o' : Nat} {x0 x1 x2 y0 y1 y2 : Value} (hb : b < B) (hb' : b' < B)
    (h : W.cell? ⟨b, o + 2, none⟩ = some x0 ∧ W.cell? ⟨b, o + 2 + 1, none⟩ = some x1 ∧ W.cell? ⟨b, o + 2 + 2, none⟩ = some x2 ∧
      W.cell? ⟨b', o' + 2, none⟩ = some y0 ∧ W.cell? ⟨b', o' + 2 + 1, none⟩ = some y1 ∧ W.cell? ⟨b', o' + 2 + 2, none⟩ = some y2 ∧ Below B w W ∧ B ≤ W.heap.size)
    (hw : Below W.heap.size W W') :
    W'.cell? ⟨b, o + 2, none⟩ = some x0 ∧ W'.cell? ⟨b, o + 2 + 1, none⟩ = some x1 ∧ W'.cell? ⟨b, o + 2 + 2, none⟩ = some x2 ∧
      W'.cell? ⟨b', o' + 2, none⟩ = some y0 ∧ W'.cell? ⟨b', o' + 2 + 1, none⟩ = some y1 ∧ W'.cell? ⟨b', o' + 2 + 2, none⟩ = some y2 ∧ Below B w W' ∧ B ≤ W'.heap.size := by
  obtain ⟨h0, h1, h2, h3, h4, h5, h6, h7⟩ := h
  exact ⟨(hw.cell (p := ⟨b, o + 2, none⟩) (by show b < _; omega)).trans h0, (hw.cell (p := ⟨b, o + 2 + 1, none⟩) (by show b < _; omega)).trans h1, (hw.cell (p := ⟨b, o + 2 + 2, none⟩) (by show b < _; omega)).trans h2,
    (hw.cell (p := ⟨b', o' + 2, none⟩) (by show b' < _; omega)).trans h3, (hw.cell (p := ⟨b', o' + 2 + 1, none⟩) (by show b' < _; omega)).trans h4, (hw.cell (p := ⟨b', o' + 2 + 2, none⟩) (by show b' < _; omega)).trans h5,
    h6.trans (hw.mono (by omega)), by have := hw.size; omega⟩

set_option maxRecDepth 100000 in
set_option maxHeartbeats 4000000 in
theorem refCmp_any (A A' : Option Addr) (c c' : Nat) (a b : List PartP) (w : World) (B : Nat) (hs : SlP w B A a) (hs' : SlP w B A' b) (hB : B ≤ w.heap.size) (_hl : a.length ≤ 50000) (_hl' : b.length ≤ 50000) (hz : ∀ p ∈ a, p.s.size ≤ 50000) (hz' : ∀ p ∈ b, p.s.size ≤ 50000) :
    Calls Try.prog 114 #[.slice A a.length c, .slice A' b.length c'] w fun e w' => e = .returned (.int .i64 (ordK a b)) ∧ Below w.heap.size w w' := by
  have HZ := Lib.hid hz
  have HZ' := Lib.hid hz'
  have hmx : 50000 ≤ maxLen := by decide
  clear hz hz'
  go_enter Try.func114, Try.ntmps114
  go_wp2
  go_loopg [5, 6] a.length (fun g x _ wr => ∃ j : Nat, x = .int .i64 j ∧ j + g = a.length ∧ j ≤ b.length ∧ Hid (ordPF a b j = ordK a b) ∧ Hid (Below w.heap.size w wr) ∧ w.heap.size ≤ wr.heap.size)
  case atStart => exact ⟨0, rfl, by omega, by omega, rfl, Below.refl _ _, Nat.le_refl _⟩
  case round =>
    obtain ⟨j, rfl, hj, hjb, HJ, HB, hsz⟩ := hrel
    by_cases h1 : j < a.length ∧ j < b.length
    · obtain ⟨h1, h2⟩ := h1
      have hi1 : (j : Int) < (a.length : Int) := by omega
      have hi2 : (j : Int) < (b.length : Int) := by omega
      obtain ⟨p0, o, rfl, hlt, hp⟩ := (hs.next HB.out hB).at_ h1
      obtain ⟨p0', o', rfl, hlt', hp'⟩ := (hs'.next HB.out hB).at_ h2
      have hst := ordPF_step h1 h2
      have hps := HZ.out _ (List.getElem_mem h1)
      have hps' := HZ'.out _ (List.getElem_mem h2)
      obtain ⟨p, hpe⟩ : ∃ p, a[j] = p := ⟨_, rfl⟩
      obtain ⟨q, hqe⟩ : ∃ q, b[j] = q := ⟨_, rfl⟩
      rw [hpe] at hp hst hps
      rw [hqe] at hp' hst hps'
      have HST := Lib.hid hst
      have a0 := hp.c0
      have a1 := hp.c1
      have a2 := hp.c2
      have a3 := hp.c3
      have a4 := hp.c4
      have b1 := hp'.c1
      have b2 := hp'.c2
      have b3 := hp'.c3
      have b4 := hp'.c4
      clear hp hp' hst hpe hqe
      cases hv : p.v
      · rw [hv] at a0
        have HO := Lib.hid (ordP_num (q := q) hv)
        clear hv
        by_cases h3 : p.n < q.n
        · have HI : Hid (ordPF a b j = -1) := by
            show _ = _
            rw [HST.out, HO.out]; unfold ordI; rw [if_pos h3]; rfl
          go_wp2
          go_quiet (fail)
          go_wp2
          go_ret
          exact ⟨ret_i64 (by rw [← HJ.out, HI.out]), below_dn HB.out _⟩
        · by_cases h4 : q.n < p.n
          · have HI : Hid (ordPF a b j = 1) := by
              show _ = _
              rw [HST.out, HO.out]; unfold ordI; rw [if_neg h3, if_pos h4]; rfl
            go_wp2
            go_quiet (fail)
            go_wp2
            go_quiet (fail)
            go_wp2
            go_ret
            exact ⟨ret_i64 (by rw [← HJ.out, HI.out]), by first | exact below_dn HB.out _ | exact below_dn (below_dn HB.out _) _⟩
          · have HI : Hid (ordPF a b j = ordPF a b (j + 1)) := by
              show _ = _
              rw [HST.out, HO.out]; unfold ordI; rw [if_neg h3, if_neg h4]; rfl
            go_wp2
            go_quiet (fail)
            go_wp2
            go_quiet (fail)
            go_wp2
            go_roundg (gk - 1)
            case measure => omega
            case rel => exact ⟨j + 1, by go_num, by omega, by omega, by rw [← HJ.out, HI.out]; rfl, (by first | exact below_dn HB.out _ | exact below_dn (below_dn HB.out _) _), hsz⟩
      · rw [hv] at a0
        have HO := Lib.hid (ordP_val (q := q) hv)
        clear hv
        go_wp2_with fail
        refine wp_region_held_drew (S := fun W => W.cell? ⟨p0, o + j * 5 + 2, none⟩ = some (.int .i64 p.k) ∧ W.cell? ⟨p0, o + j * 5 + 2 + 1, none⟩ = some (.int .i64 p.m) ∧ W.cell? ⟨p0, o + j * 5 + 2 + 2, none⟩ = some (.string p.s) ∧
            W.cell? ⟨p0', o' + j * 5 + 2, none⟩ = some (.int .i64 q.k) ∧ W.cell? ⟨p0', o' + j * 5 + 2 + 1, none⟩ = some (.int .i64 q.m) ∧ W.cell? ⟨p0', o' + j * 5 + 2 + 2, none⟩ = some (.string q.s) ∧
            Below w.heap.size w W ∧ w.heap.size ≤ W.heap.size) (by kernel_rfl) ⟨a2, a3, a4, b2, b3, b4, below_dr HB.out, hsz⟩ (fun hHeld => ?_)
        clear a0 a1 a2 a3 a4 b1 b2 b3 b4
        refine takeV 0 (some 24) ((.slice (some ⟨p0, o, none⟩) a.length c)) rfl rfl (by kernel_rfl) (by kernel_rfl) (by kernel_rfl) (fun _ _ _ h => h) (by rfl) (by (intro _w _hSw; (try dsimp only at _hSw); go_simp)) (by assumption) ?_
        simp only [Act.put, List.setIfInBounds_toArray, List.set_cons_zero, List.set_cons_succ]
        refine takeV 1 (some 25) ((.int .i64 j)) rfl rfl (by kernel_rfl) (by kernel_rfl) (by kernel_rfl) (fun _ _ _ h => h) (by rfl) (by (intro _w _hSw; (try dsimp only at _hSw); go_simp)) (by assumption) ?_
        simp only [Act.put, List.setIfInBounds_toArray, List.set_cons_zero, List.set_cons_succ]
        refine takeV 2 (some 26) ((.pointer (some ⟨p0, o + j * 5, none⟩))) rfl rfl (by kernel_rfl) (by kernel_rfl) (by kernel_rfl) (fun _ _ _ h => h) (by rfl) (by (intro _w _hSw; (try dsimp only at _hSw); go_simp)) (by assumption) ?_
        simp only [Act.put, List.setIfInBounds_toArray, List.set_cons_zero, List.set_cons_succ]
        refine takeV 3 (some 27) ((.pointer (some ⟨p0, o + j * 5 + 2, none⟩))) rfl rfl (by kernel_rfl) (by kernel_rfl) (by kernel_rfl) (fun _ _ _ h => h) (by rfl) (by (intro _w _hSw; (try dsimp only at _hSw); go_simp)) (by assumption) ?_
        simp only [Act.put, List.setIfInBounds_toArray, List.set_cons_zero, List.set_cons_succ]
        refine takeV 4 (some 28) ((.agg #[.int .i64 p.k, .int .i64 p.m, .string p.s])) rfl rfl (by kernel_rfl) (by kernel_rfl) (by kernel_rfl) (fun _ _ _ h => h) (by rfl) (by (intro _w _hSw; (try dsimp only at _hSw); go_simp)) (by assumption) ?_
        simp only [Act.put, List.setIfInBounds_toArray, List.set_cons_zero, List.set_cons_succ]
        refine takeV 5 (some 29) ((.slice (some ⟨p0', o', none⟩) b.length c')) rfl rfl (by kernel_rfl) (by kernel_rfl) (by kernel_rfl) (fun _ _ _ h => h) (by rfl) (by (intro _w _hSw; (try dsimp only at _hSw); go_simp)) (by assumption) ?_
        simp only [Act.put, List.setIfInBounds_toArray, List.set_cons_zero, List.set_cons_succ]
        refine takeV 6 (some 30) ((.int .i64 j)) rfl rfl (by kernel_rfl) (by kernel_rfl) (by kernel_rfl) (fun _ _ _ h => h) (by rfl) (by (intro _w _hSw; (try dsimp only at _hSw); go_simp)) (by assumption) ?_
        simp only [Act.put, List.setIfInBounds_toArray, List.set_cons_zero, List.set_cons_succ]
        refine takeV 7 (some 31) ((.pointer (some ⟨p0', o' + j * 5, none⟩))) rfl rfl (by kernel_rfl) (by kernel_rfl) (by kernel_rfl) (fun _ _ _ h => h) (by rfl) (by (intro _w _hSw; (try dsimp only at _hSw); go_simp)) (by assumption) ?_
        simp only [Act.put, List.setIfInBounds_toArray, List.set_cons_zero, List.set_cons_succ]
        refine takeV 8 (some 32) ((.pointer (some ⟨p0', o' + j * 5 + 2, none⟩))) rfl rfl (by kernel_rfl) (by kernel_rfl) (by kernel_rfl) (fun _ _ _ h => h) (by rfl) (by (intro _w _hSw; (try dsimp only at _hSw); go_simp)) (by assumption) ?_
        simp only [Act.put, List.setIfInBounds_toArray, List.set_cons_zero, List.set_cons_succ]
        refine takeV 9 (some 33) ((.agg #[.int .i64 q.k, .int .i64 q.m, .string q.s])) rfl rfl (by kernel_rfl) (by kernel_rfl) (by kernel_rfl) (fun _ _ _ h => h) (by rfl) (by (intro _w _hSw; (try dsimp only at _hSw); go_simp)) (by assumption) ?_
        simp only [Act.put, List.setIfInBounds_toArray, List.set_cons_zero, List.set_cons_succ]
        refine callV 10 rfl (by kernel_rfl) (by rfl) (fun K hK => ?_)
        go_simp
        go_at_call 61
        refine (refCompare_any _ _ _ _ _ _ _ (by omega) (by omega)).mono ?_
        rintro e w3 ⟨rfl, hb3⟩
        have g3 := s6n (B := w.heap.size) (by omega) (by omega) hHeld hb3
        refine hK.out _ _ g3 (fun hHeld3 => ?_)
        clear hK g3 K hHeld hb3
        try simp only [Act.put, List.setIfInBounds_toArray, List.set_cons_zero, List.set_cons_succ]
        refine takeV 11 (some 6) ((.int .i64 (ordV p.k p.m p.s q.k q.m q.s))) rfl rfl (by kernel_rfl) (by kernel_rfl) (by kernel_rfl) (fun _ _ _ h => h) (by rfl) (by (intro _w _hSw; (try dsimp only at _hSw); go_simp)) (by assumption) ?_
        simp only [Act.put, List.setIfInBounds_toArray, List.set_cons_zero, List.set_cons_succ]
        refine wpAnyH_done (by kernel_rfl) ?_ _
        obtain ⟨O, hO⟩ : ∃ O, ordV p.k p.m p.s q.k q.m q.s = O := ⟨_, rfl⟩
        rw [hO]
        have HOO := Lib.hid hO
        have HB3 : Hid (Below w.heap.size w w3) := hHeld3.2.2.2.2.2.2.1
        have hsz3 : w.heap.size ≤ w3.heap.size := hHeld3.2.2.2.2.2.2.2
        clear hO hHeld3
        by_cases h0 : O = 0
        · have HI : Hid (ordPF a b j = ordPF a b (j + 1)) := by
            show _ = _
            rw [HST.out, HO.out, HOO.out, if_pos h0]
          subst h0
          go_wp2
          go_roundg (gk - 1)
          case measure => omega
          case rel => exact ⟨j + 1, by go_num, by omega, by omega, by rw [← HJ.out, HI.out]; rfl, HB3.out, hsz3⟩
        · have HI : Hid (ordPF a b j = O) := by
            show _ = _
            rw [HST.out, HO.out, HOO.out, if_neg h0]
          have hb0 : (O != 0) = true := by simpa using h0
          clear h0
          go_wp2
          go_ret
          exact ⟨ret_i64 (by rw [← HJ.out, HI.out]), HB3.out⟩
    · have HE := Lib.hid (ordPF_end (a := a) (b := b) (j := j) (by omega))
      by_cases h2 : j < a.length
      · have hi1 : (j : Int) < (a.length : Int) := by omega
        have hi2 : ¬ (j : Int) < (b.length : Int) := by omega
        go_wp2
        go_ret
        exact ⟨ret_i64 (by rw [← HJ.out, HE.out]), HB.out⟩
      · have hi1 : ¬ (j : Int) < (a.length : Int) := by omega
        go_wp2
        go_ret
        exact ⟨ret_i64 (by rw [← HJ.out, HE.out]), HB.out⟩

end Go.Proofs.Ytdhnajhfkmmjnaa

/-
  CONTRACT: readValue (the program's).
-/
namespace Go.Proofs.Ytdhnajhfkmmjnaa
open Go.RowKit Go.Shelf

/-- a value as a whole -/
def valV (k n : Int) (s : ByteArray) : Value := .agg #[.int .i64 k, .int .i64 n, .string s]
/-- What readValue answers. -/
def ValRd (W : World) (B : Nat) (l : List UInt8) (e : Ending) (w' : World) : Prop :=
  ((∃ k n s t r, oneR l = some ((k, n, s), t) ∧ e = .returned (.tuple #[valV k n ⟨s.toArray⟩, r, .bool true]) ∧ Rest w' B r t) ∨
  (oneR l = none ∧ ∃ k n s r, e = .returned (.tuple #[valV k n s, r, .bool false]))) ∧ Below W.heap.size W w'

theorem ValAt.fz {W : World} {b : Nat} {k n : Int} {s : ByteArray} (h : ValAt W b k n s) (j : Nat) : W.frozen? ⟨b, j, none⟩ = false := by unfold ValAt at h; simp [World.frozen?, h]
theorem ValAt.set0 {W : World} {b : Nat} {k n : Int} {s : ByteArray} (h : ValAt W b k n s) (k' : Int) : ValAt (W.setCell ⟨b, 0, none⟩ (.int .i64 k')) b k' n s := by
  have e := setCell_eq_setRow W b 0 _ _ (0, 0) (.int .i64 k') h
  unfold ValAt
  rw [e, setRow_heap _ _ _ _ _ _ h]; rfl
theorem ValAt.set1 {W : World} {b : Nat} {k n : Int} {s : ByteArray} (h : ValAt W b k n s) (n' : Int) : ValAt (W.setCell ⟨b, 1, none⟩ (.int .i64 n')) b k n' s := by
  have e := setCell_eq_setRow W b 1 _ _ (0, 0) (.int .i64 n') h
  unfold ValAt
  rw [e, setRow_heap _ _ _ _ _ _ h]; rfl
theorem ValAt.set2 {W : World} {b : Nat} {k n : Int} {s : ByteArray} (h : ValAt W b k n s) (s' : ByteArray) : ValAt (W.setCell ⟨b, 2, none⟩ (.string s')) b k n s' := by
  have e := setCell_eq_setRow W b 2 _ _ (0, 0) (.string s') h
  unfold ValAt
  rw [e, setRow_heap _ _ _ _ _ _ h]; rfl
theorem ValAt.far {W : World} {b b' j : Nat} {k n : Int} {s : ByteArray} (h : ValAt W b k n s) (hne : b ≠ b') (u : Value) : ValAt (W.setCell ⟨b', j, none⟩ u) b k n s :=
  (Below.heap_setCell W ⟨b', j, none⟩ u b hne).trans h
theorem ValAt.dr {W : World} {b : Nat} {k n : Int} {s : ByteArray} (h : ValAt W b k n s) : ValAt W.drew b k n s := h
theorem results_cell_tmp2 {fn : Func} {p q r : Tmp} {ty : TypeId} (h : fn.results = #[.cell p ty, .tmp q, .tmp r]) (tmps : Array Value) (P : Program) (w : World) :
    (results fn tmps).run P w =
      ((asAddr (tmps.getD p undef)).run P w).andThen fun a w₁ => ((loadVar ty a).run P w₁).andThen fun v w₂ => .ok (.tuple #[v, tmps.getD q undef, tmps.getD r undef]) w₂ := by
  simp only [results, h]
  simp [Sem.run_bind, Result.andThen]

theorem txtR_len : ∀ {l s u : List UInt8}, txtR l = some (s, u) → s.length ≤ l.length
  | [], _, _, h => by cases h
  | [_], _, _, h => by cases h
  | c :: d :: r, s, u, h => by
    rw [txtR] at h
    by_cases hc : c = 0
    · rw [if_pos hc] at h
      by_cases h1 : d = 1
      · rw [if_pos h1] at h
        cases h
        simp
      · rw [if_neg h1] at h
        by_cases h2 : d = 255
        · rw [if_pos h2] at h
          cases hr : txtR r with
          | none => rw [hr] at h; cases h
          | some p =>
            obtain ⟨s', u'⟩ := p
            rw [hr] at h
            have := txtR_len hr
            cases h
            simp; omega
        · rw [if_neg h2] at h; cases h
    · rw [if_neg hc] at h
      cases hr : txtR (d :: r) with
      | none => rw [hr] at h; cases h
      | some p =>
        obtain ⟨s', u'⟩ := p
        rw [hr] at h
        have := txtR_len hr
        cases h
        simp at this ⊢; omega

end Go.Proofs.Ytdhnajhfkmmjnaa

/-
  CONTRACT: readPart (the program's).
-/
namespace Go.Proofs.Ytdhnajhfkmmjnaa
open Go.RowKit Go.Shelf

/-- a part as a whole -/
def partV (p : PartP) : Value := .agg #[.bool p.v, .int .i64 p.n, .int .i64 p.k, .int .i64 p.m, .string p.s]
/-- What readPart answers. -/
def PartRd (W : World) (B : Nat) (v : Bool) (l : List UInt8) (e : Ending) (w' : World) : Prop :=
  ((∃ p t r, partR v l = some (p, t) ∧ e = .returned (.tuple #[partV p, r, .bool true]) ∧ Rest w' B r t) ∨
  (partR v l = none ∧ ∃ p r, e = .returned (.tuple #[partV p, r, .bool false]))) ∧ Below W.heap.size W w'
theorem PartBox.fz {W : World} {b : Nat} {p : PartP} (h : PartBox W b p) (j : Nat) : W.frozen? ⟨b, j, none⟩ = false := by unfold PartBox at h; simp [World.frozen?, h]
theorem PartBox.row {W : World} {b : Nat} {p : PartP} (h : PartBox W b p) (cs : Array Value) : (W.setRow b cs).heap[b]? = some (.cells cs 171 (0, 0)) := setRow_heap _ _ _ _ _ _ h
theorem PartBox.set {W : World} {b : Nat} {p : PartP} (h : PartBox W b p) (q : PartP) : PartBox (((((W.setCell ⟨b, 0, none⟩ (.bool q.v)).setCell ⟨b, 1, none⟩ (.int .i64 q.n)).setCell ⟨b, 2, none⟩ (.int .i64 q.k)).setCell ⟨b, 3, none⟩ (.int .i64 q.m)).setCell ⟨b, 4, none⟩ (.string q.s)) b q := by
  have e0 := setCell_eq_setRow W b 0 _ _ (0, 0) (.bool q.v) h
  rw [e0]
  have h0 := h.row ((#[Value.bool p.v, .int .i64 p.n, .int .i64 p.k, .int .i64 p.m, .string p.s] : Array Value).setIfInBounds 0 (.bool q.v))
  have e1 := setCell_eq_setRow _ b 1 _ _ (0, 0) (.int .i64 q.n) h0
  rw [e1, setRow_setRow]
  have h1 := h.row (((#[Value.bool p.v, .int .i64 p.n, .int .i64 p.k, .int .i64 p.m, .string p.s] : Array Value).setIfInBounds 0 (.bool q.v)).setIfInBounds 1 (.int .i64 q.n))
  have e2 := setCell_eq_setRow _ b 2 _ _ (0, 0) (.int .i64 q.k) h1
  rw [e2, setRow_setRow]
  have h2 := h.row ((((#[Value.bool p.v, .int .i64 p.n, .int .i64 p.k, .int .i64 p.m, .string p.s] : Array Value).setIfInBounds 0 (.bool q.v)).setIfInBounds 1 (.int .i64 q.n)).setIfInBounds 2 (.int .i64 q.k))
  have e3 := setCell_eq_setRow _ b 3 _ _ (0, 0) (.int .i64 q.m) h2
  rw [e3, setRow_setRow]
  have h3 := h.row (((((#[Value.bool p.v, .int .i64 p.n, .int .i64 p.k, .int .i64 p.m, .string p.s] : Array Value).setIfInBounds 0 (.bool q.v)).setIfInBounds 1 (.int .i64 q.n)).setIfInBounds 2 (.int .i64 q.k)).setIfInBounds 3 (.int .i64 q.m))
  have e4 := setCell_eq_setRow _ b 4 _ _ (0, 0) (.string q.s) h3
  rw [e4, setRow_setRow]
  have h4 := h.row ((((((#[Value.bool p.v, .int .i64 p.n, .int .i64 p.k, .int .i64 p.m, .string p.s] : Array Value).setIfInBounds 0 (.bool q.v)).setIfInBounds 1 (.int .i64 q.n)).setIfInBounds 2 (.int .i64 q.k)).setIfInBounds 3 (.int .i64 q.m)).setIfInBounds 4 (.string q.s))
  exact h4
theorem below_set5 {W : World} {B b : Nat} (hb : B ≤ b) (u0 u1 u2 u3 u4 : Value) {w : World} (h : Below B w W) : Below B w (((((W.setCell ⟨b, 0, none⟩ u0).setCell ⟨b, 1, none⟩ u1).setCell ⟨b, 2, none⟩ u2).setCell ⟨b, 3, none⟩ u3).setCell ⟨b, 4, none⟩ u4) :=
  ((((h.setCell (p := ⟨b, 0, none⟩) hb _).setCell (p := ⟨b, 1, none⟩) hb _).setCell (p := ⟨b, 2, none⟩) hb _).setCell (p := ⟨b, 3, none⟩) hb _).setCell (p := ⟨b, 4, none⟩) hb _
def zeroP : PartP := ⟨false, 0, 0, 0, ⟨#[]⟩⟩

end Go.Proofs.Ytdhnajhfkmmjnaa

/-
  CONTRACT: told (the program's iterator over parts).
-/
namespace Go.Proofs.Ytdhnajhfkmmjnaa
open Go.RowKit Go.Shelf
attribute [local go_sem] Oper.semAt_some

theorem Rest.back {W W' : World} {B B' : Nat} {v : Value} {l : List UInt8} (h : Rest W' B v l) (hb : Below B' W W') (hB : B ≤ B') : Rest W B v l := by
  obtain ⟨A, c, e, hs, h1, h2⟩ := h
  refine ⟨A, c, e, fun hl => ?_, h1, h2⟩
  obtain ⟨a, ea, hlt, hc⟩ := hs hl
  exact ⟨a, ea, hlt, fun j x hx => (hb.cell (p := a.add j) (by rw [add_block]; omega)).symm.trans (hc j x hx)⟩
theorem abides_at {α : Type} {B : Nat} {J : List α → World → Prop} (hJ : AbidesFrom B J) {p : List α} {w w' : World} (h : J p w) (hb : Below w.heap.size w w') : J p w' :=
  hJ p w w' none h ⟨hb.os, hb.tape, hb.output, hb.size, fun k hk _ => hb.block k hk⟩ (fun r e => by cases e)

/-- a part, and what stands behind it -/
structure Tl (w : World) (B : Nat) where
  p : PartP
  t : List UInt8
  r : Value
  ok : Rest w B r t
def Tl.pt {w : World} {B : Nat} (x : Tl w B) : PartP × List UInt8 := (x.p, x.t)
/-- the parts that bytes begin with -/
def tellL : List Bool → List UInt8 → List (PartP × List UInt8)
  | [], _ => []
  | v :: ks, b => match partR v b with
    | none => []
    | some (p, t) => (p, t) :: tellL ks t
theorem txtR_rest : ∀ {l s u : List UInt8}, txtR l = some (s, u) → u.length ≤ l.length
  | [], _, _, h => by cases h
  | [_], _, _, h => by cases h
  | c :: d :: r, s, u, h => by
    rw [txtR] at h
    by_cases hc : c = 0
    · rw [if_pos hc] at h
      by_cases h1 : d = 1
      · rw [if_pos h1] at h
        cases h
        simp; omega
      · rw [if_neg h1] at h
        by_cases h2 : d = 255
        · rw [if_pos h2] at h
          cases hr : txtR r with
          | none => rw [hr] at h; cases h
          | some p =>
            obtain ⟨s', u'⟩ := p
            rw [hr] at h
            have := txtR_rest hr
            cases h
            simp; omega
        · rw [if_neg h2] at h; cases h
    · rw [if_neg hc] at h
      cases hr : txtR (d :: r) with
      | none => rw [hr] at h; cases h
      | some p =>
        obtain ⟨s', u'⟩ := p
        rw [hr] at h
        have := txtR_rest hr
        cases h
        simp at this ⊢; omega
theorem oneR_rest {l t : List UInt8} {x : Int × Int × List UInt8} (h : oneR l = some (x, t)) : t.length ≤ l.length := by
  cases l with
  | nil => cases h
  | cons c r =>
    simp only [oneR] at h
    by_cases h2 : c = 2
    · rw [if_pos h2] at h
      cases r with
      | nil => cases h
      | cons d u =>
        simp only at h
        split at h
        · cases h; simp; omega
        · cases h
    · rw [if_neg h2] at h
      by_cases h1 : c = 1 ∨ c = 5 ∨ c = 6
      · rw [if_pos h1] at h
        split at h
        · cases h; simp; omega
        · cases h
      · rw [if_neg h1] at h
        by_cases h3 : c = 3 ∨ c = 4 ∨ c = 7
        · rw [if_pos h3] at h
          cases hr : txtR r with
          | none => rw [hr] at h; cases h
          | some p =>
            obtain ⟨s, u⟩ := p
            rw [hr] at h
            simp only at h
            have := txtR_rest hr
            split at h
            · cases h; simp; omega
            · cases h
        · rw [if_neg h3] at h; cases h
theorem partR_rest {v : Bool} {l t : List UInt8} {p : PartP} (h : partR v l = some (p, t)) : t.length ≤ l.length := by
  unfold partR at h
  split at h
  · cases ho : oneR l with
    | none => rw [ho] at h; cases h
    | some x =>
      obtain ⟨x, u⟩ := x
      rw [ho] at h
      cases h
      exact oneR_rest ho
  · split at h
    · cases h; simp
    · cases h

/-- a slice that reads as these kinds -/
def SlK (W : World) (B : Nat) (A : Option Addr) (l : List Bool) : Prop :=
  l ≠ [] → ∃ a, A = some a ∧ a.block < B ∧ ∀ (j : Nat) (x : Bool), l[j]? = some x → W.cell? (a.add j) = some (.bool x)
theorem SlK.next {W W' : World} {B : Nat} {A : Option Addr} {l : List Bool} (h : SlK W B A l) {B' : Nat} (hb : Below B' W W') (hB : B ≤ B') : SlK W' B A l := fun hl => by
  obtain ⟨a, e, hlt, hc⟩ := h hl
  exact ⟨a, e, hlt, fun j x hx => (hb.cell (p := a.add j) (by rw [add_block]; omega)).trans (hc j x hx)⟩

/-- One round of the loop that is handed parts. -/
def HandsT (w : World) (B : Nat) (l N : Nat) (J Jx : List (Tl w B) → World → Prop) : Prop :=
  ∀ m pre (x : Tl w B) W, J pre W → pre.length < N → YieldAt Fence.wide m Try.prog l #[partV x.p, x.r] W fun e W' =>
    (e = .returned (.bool true) ∧ J (pre ++ [x]) W' ∧ Below B W W') ∨ (e = .returned (.bool false) ∧ Jx (pre ++ [x]) W')

end Go.Proofs.Ytdhnajhfkmmjnaa

/-
  CONTRACT: Read (the program's).
-/
namespace Go.Proofs.Ytdhnajhfkmmjnaa
open Go.RowKit Go.Shelf
attribute [local go_sem] Oper.semAt_some

theorem info44 : (Try.prog.info? 171).map (fun i => (i.zero, i.size, i.bytes)) = some (some (.agg #[.bool false, .int .i64 0, .int .i64 0, .int .i64 0, .string ⟨#[]⟩]), 5, 48) := by kernel_rfl
def cellsP (p : PartP) : List Value := [.bool p.v, .int .i64 p.n, .int .i64 p.k, .int .i64 p.m, .string p.s]
/-- a slice of parts in blocks from B on, which the call has to itself -/
def OwnP (W : World) (B : Nat) (v : Value) (l : List PartP) : Prop := W.ownsRow B 171 5 v l.length (l.flatMap cellsP)
theorem OwnP.kept {W W' : World} {B : Nat} {v : Value} {l : List PartP} {row : Option Nat} (h : OwnP W B v l) (hg : W.grownBy W' row) (hr : ∀ r, row = some r → ∃ o : Obj, W.heap[r]? = some o ∧ o.isCells = false) : OwnP W' B v l := by
  refine World.ownsRow.kept (row := row) h hg ?_
  rcases h.2 with ⟨rfl, _⟩ | ⟨g, cap, cur, rfl, _, hgb, _⟩
  · exact .inl rfl
  · refine .inr fun e => ?_
    obtain ⟨_, ho, hc⟩ := hr g (by rw [← e]; rfl)
    rw [hgb] at ho
    cases ho
    simp [Obj.isCells] at hc
theorem OwnP.other {W : World} {B b : Nat} {t : TypeId} {u v : Value} {l : List PartP} (h : OwnP W B v l) (hb : Boxed W b t u) (ht : t ≠ 171) (u' : Value) : OwnP (W.setCell ⟨b, 0, none⟩ u') B v l := by
  refine World.ownsRow.kept (row := some b) h (grownBy_setCell' W b u') ?_
  have h1 := hb.not_row ht h
  cases hv : v.ownBlock with
  | none => exact .inl rfl
  | some g => exact .inr (fun e => h1 (by rw [hv, e]))
theorem OwnP.alloc {W : World} {B : Nat} {v : Value} {l : List PartP} (h : OwnP W B v l) (o : Obj) : OwnP (W.alloc o) B v l := World.ownsRow.alloc h o
theorem PartBox.kept {W W' : World} {b : Nat} {p : PartP} {row : Option Nat} (h : PartBox W b p) (hg : W.grownBy W' row) (hr : ∀ r, row = some r → ∃ o : Obj, W.heap[r]? = some o ∧ o.isCells = false) : PartBox W' b p := by
  refine (hg.block b (Array.getElem?_eq_some_iff.1 h).1 fun e => ?_).trans h
  obtain ⟨o, ho, hc⟩ := hr b e.symm
  rw [show W.heap[b]? = _ from h] at ho
  cases ho
  simp [Obj.isCells] at hc

/-- what stands behind the last part that was told -/
def lastR {w : World} {B : Nat} (r0 : Value) (pre : List (Tl w B)) : Value := match pre.getLast? with
  | none => r0
  | some x => x.r
theorem ownsRow_succ' {W : World} {B : Nat} {e : TypeId} {size n : Nat} {v : Value} {xs : List Value} (h : W.ownsRow B e size v (n + 1) xs) : ∃ g cap, v = .slice (some ⟨g, 0, none⟩) (n + 1) cap := by
  rcases h.2 with ⟨_, h0⟩ | ⟨g, cap, cur, rfl, _⟩
  · omega
  · exact ⟨g, cap, rfl⟩
theorem cellsP_one (p : PartP) : ∀ u ∈ cellsP p, u.oneCell' = true := by
  intro u hu
  simp [cellsP] at hu
  rcases hu with rfl | rfl | rfl | rfl | rfl <;> rfl

/-- what bytes are read as, whole -/
def readL (ks : List Bool) (b : List UInt8) : Option (List PartP) := if (tellL ks b).length = ks.length ∧ ((tellL ks b).getLast?.map (·.2)).getD b = [] then some ((tellL ks b).map (·.1)) else none
theorem tellL_len : ∀ (ks : List Bool) (b : List UInt8), (tellL ks b).length ≤ ks.length
  | [], _ => Nat.le_refl _
  | v :: ks, b => by
    rw [tellL]
    split
    · simp
    · have := tellL_len ks
      simp [this]
theorem ownP_form {W : World} {B : Nat} {v : Value} {l : List PartP} (h : OwnP W B v l) : ∃ A c, v = .slice A l.length c := by
  rcases h.2 with ⟨rfl, h0⟩ | ⟨g, cap, cur, rfl, _⟩
  · exact ⟨none, 0, by rw [h0]⟩
  · exact ⟨_, _, rfl⟩
theorem lastR_is {w : World} {B : Nat} (A : Option Addr) (c : Nat) (b : List UInt8) (pre : List (Tl w B)) : ∃ RA rc u, lastR (.slice A b.length c) pre = .slice RA u.length rc ∧ u = (pre.getLast?.map (·.t)).getD b := by
  unfold lastR
  cases pre.getLast? with
  | none => exact ⟨A, c, b, rfl, rfl⟩
  | some x =>
    obtain ⟨RA, rc, e, _⟩ := x.ok
    exact ⟨RA, rc, x.t, e, rfl⟩
/-- What Read answers. -/
def ReadEnd (W : World) (ks : List Bool) (b : List UInt8) (e : Ending) (w' : World) : Prop :=
  ((∃ ps v, readL ks b = some ps ∧ e = .returned (.tuple #[v, .int .i64 0]) ∧ OwnP w' W.heap.size v ps) ∨ (readL ks b = none ∧ e = .returned (.tuple #[.slice none 0 0, .int .i64 20]))) ∧ Below W.heap.size W w'
theorem readEnd_yes {W w' : World} {ks : List Bool} {b : List UInt8} {ps : List PartP} {v : Value} (h : readL ks b = some ps) (ho : OwnP w' W.heap.size v ps) (hb : Below W.heap.size W w') : ReadEnd W ks b (.returned (.tuple #[v, .int .i64 0])) w' := ⟨.inl ⟨ps, v, h, rfl, ho⟩, hb⟩
theorem readEnd_no {W w' : World} {ks : List Bool} {b : List UInt8} {v n : Value} (h : readL ks b = none) (hv : v = .slice none 0 0) (hn : n = .int .i64 20) (hb : Below W.heap.size W w') : ReadEnd W ks b (.returned (.tuple #[v, n])) w' := ⟨.inr ⟨h, by rw [hv, hn]⟩, hb⟩

end Go.Proofs.Ytdhnajhfkmmjnaa
