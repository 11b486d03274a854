import Derived.Test.YtkoknogefmfmnaaProg
import Derived.WalkKit
import Derived.Deep.RegionHeld3
import Derived.Test.YtkoknogefmfmnaaJOKeyW
import Derived.Test.YtkoknogefmfmnaaJOrdRef
/-
  A DRAWN REGION, WALKED BY HAND: an operation that yields its value in every world that meets S is taken first; one whose guard is not met is passed over; a call is met by its contract. (For regions with guards that are not met, where 'go_region_held3' warns.)
-/
namespace Go.Proofs.Ytkoknogefmfmnaa
open Go.RowKit

section
variable {P : Program} {ops : Array Oper} {Q : Exit → Act → World → Prop} {md : Region.Mode} {S : World → Prop}

theorem takeV {fuel : Nat} {listed : Array Bool} {a : Act} {w : World} (i : Nat) (d : Option Tmp) (v : Value) {oi : Oper} (hi : ops[i]? = some oi) (hd : oi.dst = d)
    (hs : Region.noSelect ops = true) (hf : Region.free md ops listed i = true) (hr : (Region.ready md ops listed).contains i = true)
    (hQ : ∀ c a w, Q (.panic c) (a.put d v) w → Q (.panic c) a w) (hw : Region.wanted oi (yielded ops a.tmps) = true) (hy : ∀ w, S w → (execOp a.eval oi).run P w = .ok (.value v) w) (hS : S w)
    (h : wpAnyH P md ops Q S fuel (listed.setIfInBounds i true) (a.put d v) w) : wpAnyH P md ops Q S (fuel + 1) listed a w := by
  subst hd; exact wpAnyH_take hi hs hf hr hQ (Or.inl ⟨hw, hy⟩) hS h

theorem skipV {fuel : Nat} {listed : Array Bool} {a : Act} {w : World} (i : Nat) (d : Option Tmp) {oi : Oper} (hi : ops[i]? = some oi) (hd : oi.dst = d)
    (hs : Region.noSelect ops = true) (hf : Region.free md ops listed i = true) (hr : (Region.ready md ops listed).contains i = true)
    (hQ : ∀ c a w, Q (.panic c) (a.put d undef) w → Q (.panic c) a w) (hw : Region.wanted oi (yielded ops a.tmps) = false) (hS : S w)
    (h : wpAnyH P md ops Q S fuel (listed.setIfInBounds i true) (a.put d undef) w) : wpAnyH P md ops Q S (fuel + 1) listed a w := by
  subst hd; exact wpAnyH_take hi hs hf hr hQ (Or.inr ⟨hw, rfl⟩) hS h

/-- One operation alone may come up, and it is wanted. -/
theorem callV {fuel : Nat} {listed : Array Bool} {a : Act} {w : World} (i : Nat) {oi : Oper} (hi : ops[i]? = some oi) (hr : Region.ready md ops listed = [i]) (hw : Region.wanted oi (yielded ops a.tmps) = true)
    (h : ∀ K' : Act → World → Prop, Shut (∀ a w, S w → (S w → wpAnyH P md ops Q S fuel (listed.setIfInBounds i true) a w) → K' a w) → Oper.wp P oi a w K' Q) : wpAnyH P md ops Q S (fuel + 1) listed a w :=
  wpAnyH_ready hr (by simp) (AllReadyH.cons hi (fun K' hK => by rw [if_pos hw]; exact h K' hK) AllReadyH.nil)
end

end Go.Proofs.Ytkoknogefmfmnaa

/-
  CONTRACT: Compare of two lists of parts (the document's).
-/
namespace Go.Proofs.Ytkoknogefmfmnaa
open Go.RowKit Go.Shelf

/-- how two lists of parts stand from a place on -/
def ordPF (a b : List PartP) (j : Nat) : Int := ordK (a.drop j) (b.drop j)
theorem ordPF_step {a b : List PartP} {j : Nat} (h : j < a.length) (h' : j < b.length) : ordPF a b j = if ordP a[j] b[j] = 0 then ordPF a b (j + 1) else ordP a[j] b[j] := by
  unfold ordPF
  rw [List.drop_eq_getElem_cons h, List.drop_eq_getElem_cons h', ordK]
theorem ordPF_end {a b : List PartP} {j : Nat} (h : a.length ≤ j ∨ b.length ≤ j) : ordPF a b j = 0 := by
  unfold ordPF
  rcases h with h | h
  · rw [List.drop_of_length_le h]; cases b.drop j <;> rfl
  · rw [List.drop_of_length_le h]; cases a.drop j <;> rfl
theorem ordP_num {p q : PartP} (h : p.v = false) : ordP p q = ordI p.n q.n := by unfold ordP; rw [h]; rfl
theorem ordP_val {p q : PartP} (h : p.v = true) : ordP p q = ordV p.k p.m p.s q.k q.m q.s := by unfold ordP; rw [h]; rfl
theorem below_dr {B : Nat} {a w : World} (h : Below B a w) : Below B a w.drew := ⟨h.os, h.tape, h.output, h.size, h.block⟩

theorem s6n {B : Nat} {w W W' : World} {b b' o o' : Nat} {x0 x1 x2 y0 y1 y2 : Value} (hb : b < B) (hb' : b' < B)
    (h : W.cell? ⟨b, o + 2, none⟩ = some x0 ∧ W.cell? ⟨b, o + 2 + 1, none⟩ = some x1 ∧ W.cell? ⟨b, o + 2 + 2, none⟩ = some x2 ∧
      W.cell? ⟨b', o' + 2, none⟩ = some y0 ∧ W.cell? ⟨b', o' + 2 + 1, none⟩ = some y1 ∧ W.cell? ⟨b', o' + 2 + 2, none⟩ = some y2 ∧ Below B w W ∧ B ≤ W.heap.size)
    (hw : Below W.heap.size W W') :
    W'.cell? ⟨b, o + 2, none⟩ = some x0 ∧ W'.cell? ⟨b, o + 2 + 1, none⟩ = some x1 ∧ W'.cell? ⟨b, o + 2 + 2, none⟩ = some x2 ∧
      W'.cell? ⟨b', o' + 2, none⟩ = some y0 ∧ W'.cell? ⟨b', o' + 2 + 1, none⟩ = some y1 ∧ W'.cell? ⟨b', o' + 2 + 2, none⟩ = some y2 ∧ Below B w W' ∧ B ≤ W'.heap.size := by
  obtain ⟨h0, h1, h2, h3, h4, h5, h6, h7⟩ := h
  exact ⟨(hw.cell (p := ⟨b, o + 2, none⟩) (by show b < _; omega)).trans h0, (hw.cell (p := ⟨b, o + 2 + 1, none⟩) (by show b < _; omega)).trans h1, (hw.cell (p := ⟨b, o + 2 + 2, none⟩) (by show b < _; omega)).trans h2,
    (hw.cell (p := ⟨b', o' + 2, none⟩) (by show b' < _; omega)).trans h3, (hw.cell (p := ⟨b', o' + 2 + 1, none⟩) (by show b' < _; omega)).trans h4, (hw.cell (p := ⟨b', o' + 2 + 2, none⟩) (by show b' < _; omega)).trans h5,
    h6.trans (hw.mono (by omega)), by have := hw.size; omega⟩

set_option maxRecDepth 100000 in
set_option maxHeartbeats 4000000 in
theorem refCmp_any (A A' : Option Addr) (c c' : Nat) (a b : List PartP) (w : World) (B : Nat) (hs : SlP w B A a) (hs' : SlP w B A' b) (hB : B ≤ w.heap.size) (_hl : a.length ≤ 50000) (_hl' : b.length ≤ 50000) (hz : ∀ p ∈ a, p.s.size ≤ 50000) (hz' : ∀ p ∈ b, p.s.size ≤ 50000) :
    Calls Try.prog 57 #[.slice A a.length c, .slice A' b.length c'] w fun e w' => e = .returned (.int .i64 (ordK a b)) ∧ Below w.heap.size w w' := by
  have HZ := Lib.hid hz
  have HZ' := Lib.hid hz'
  have hmx : 50000 ≤ maxLen := by decide
  clear hz hz'
  go_enter Try.func57, Try.ntmps57
  go_wp2
  go_loopg [5, 6] a.length (fun g x _ wr => ∃ j : Nat, x = .int .i64 j ∧ j + g = a.length ∧ j ≤ b.length ∧ Hid (ordPF a b j = ordK a b) ∧ Hid (Below w.heap.size w wr) ∧ w.heap.size ≤ wr.heap.size)
  case atStart => exact ⟨0, rfl, by omega, by omega, rfl, Below.refl _ _, Nat.le_refl _⟩
  case round =>
    obtain ⟨j, rfl, hj, hjb, HJ, HB, hsz⟩ := hrel
    by_cases h1 : j < a.length ∧ j < b.length
    · obtain ⟨h1, h2⟩ := h1
      have hi1 : (j : Int) < (a.length : Int) := by omega
      have hi2 : (j : Int) < (b.length : Int) := by omega
      obtain ⟨p0, o, rfl, hlt, hp⟩ := (hs.next HB.out hB).at_ h1
      obtain ⟨p0', o', rfl, hlt', hp'⟩ := (hs'.next HB.out hB).at_ h2
      have hst := ordPF_step h1 h2
      have hps := HZ.out _ (List.getElem_mem h1)
      have hps' := HZ'.out _ (List.getElem_mem h2)
      obtain ⟨p, hpe⟩ : ∃ p, a[j] = p := ⟨_, rfl⟩
      obtain ⟨q, hqe⟩ : ∃ q, b[j] = q := ⟨_, rfl⟩
      rw [hpe] at hp hst hps
      rw [hqe] at hp' hst hps'
      have HST := Lib.hid hst
      have a0 := hp.c0
      have a1 := hp.c1
      have a2 := hp.c2
      have a3 := hp.c3
      have a4 := hp.c4
      have b1 := hp'.c1
      have b2 := hp'.c2
      have b3 := hp'.c3
      have b4 := hp'.c4
      clear hp hp' hst hpe hqe
      cases hv : p.v
      · rw [hv] at a0
        have HO := Lib.hid (ordP_num (q := q) hv)
        clear hv
        by_cases h3 : p.n < q.n
        · have HI : Hid (ordPF a b j = -1) := by
            show _ = _
            rw [HST.out, HO.out]; unfold ordI; rw [if_pos h3]; rfl
          go_wp2
          go_quiet (fail)
          go_wp2
          go_ret
          exact ⟨ret_i64 (by rw [← HJ.out, HI.out]), below_dn HB.out _⟩
        · by_cases h4 : q.n < p.n
          · have HI : Hid (ordPF a b j = 1) := by
              show _ = _
              rw [HST.out, HO.out]; unfold ordI; rw [if_neg h3, if_pos h4]; rfl
            go_wp2
            go_quiet (fail)
            go_wp2
            go_quiet (fail)
            go_wp2
            go_ret
            exact ⟨ret_i64 (by rw [← HJ.out, HI.out]), by first | exact below_dn HB.out _ | exact below_dn (below_dn HB.out _) _⟩
          · have HI : Hid (ordPF a b j = ordPF a b (j + 1)) := by
              show _ = _
              rw [HST.out, HO.out]; unfold ordI; rw [if_neg h3, if_neg h4]; rfl
            go_wp2
            go_quiet (fail)
            go_wp2
            go_quiet (fail)
            go_wp2
            go_roundg (gk - 1)
            case measure => omega
            case rel => exact ⟨j + 1, by go_num, by omega, by omega, by rw [← HJ.out, HI.out]; rfl, (by first | exact below_dn HB.out _ | exact below_dn (below_dn HB.out _) _), hsz⟩
      · rw [hv] at a0
        have HO := Lib.hid (ordP_val (q := q) hv)
        clear hv
        go_wp2_with fail
        refine wp_region_held_drew (S := fun W => W.cell? ⟨p0, o + j * 5 + 2, none⟩ = some (.int .i64 p.k) ∧ W.cell? ⟨p0, o + j * 5 + 2 + 1, none⟩ = some (.int .i64 p.m) ∧ W.cell? ⟨p0, o + j * 5 + 2 + 2, none⟩ = some (.string p.s) ∧
            W.cell? ⟨p0', o' + j * 5 + 2, none⟩ = some (.int .i64 q.k) ∧ W.cell? ⟨p0', o' + j * 5 + 2 + 1, none⟩ = some (.int .i64 q.m) ∧ W.cell? ⟨p0', o' + j * 5 + 2 + 2, none⟩ = some (.string q.s) ∧
            Below w.heap.size w W ∧ w.heap.size ≤ W.heap.size) (by kernel_rfl) ⟨a2, a3, a4, b2, b3, b4, below_dr HB.out, hsz⟩ (fun hHeld => ?_)
        clear a0 a1 a2 a3 a4 b1 b2 b3 b4
        refine takeV 0 (some 24) ((.slice (some ⟨p0, o, none⟩) a.length c)) rfl rfl (by kernel_rfl) (by kernel_rfl) (by kernel_rfl) (fun _ _ _ h => h) (by rfl) (by (intro _w _hSw; (try dsimp only at _hSw); go_simp)) (by assumption) ?_
        simp only [Act.put, List.setIfInBounds_toArray, List.set_cons_zero, List.set_cons_succ]
        refine takeV 1 (some 25) ((.int .i64 j)) rfl rfl (by kernel_rfl) (by kernel_rfl) (by kernel_rfl) (fun _ _ _ h => h) (by rfl) (by (intro _w _hSw; (try dsimp only at _hSw); go_simp)) (by assumption) ?_
        simp only [Act.put, List.setIfInBounds_toArray, List.set_cons_zero, List.set_cons_succ]
        refine takeV 2 (some 26) ((.pointer (some ⟨p0, o + j * 5, none⟩))) rfl rfl (by kernel_rfl) (by kernel_rfl) (by kernel_rfl) (fun _ _ _ h => h) (by rfl) (by (intro _w _hSw; (try dsimp only at _hSw); go_simp)) (by assumption) ?_
        simp only [Act.put, List.setIfInBounds_toArray, List.set_cons_zero, List.set_cons_succ]
        refine takeV 3 (some 27) ((.pointer (some ⟨p0, o + j * 5 + 2, none⟩))) rfl rfl (by kernel_rfl) (by kernel_rfl) (by kernel_rfl) (fun _ _ _ h => h) (by rfl) (by (intro _w _hSw; (try dsimp only at _hSw); go_simp)) (by assumption) ?_
        simp only [Act.put, List.setIfInBounds_toArray, List.set_cons_zero, List.set_cons_succ]
        refine takeV 4 (some 28) ((.agg #[.int .i64 p.k, .int .i64 p.m, .string p.s])) rfl rfl (by kernel_rfl) (by kernel_rfl) (by kernel_rfl) (fun _ _ _ h => h) (by rfl) (by (intro _w _hSw; (try dsimp only at _hSw); go_simp)) (by assumption) ?_
        simp only [Act.put, List.setIfInBounds_toArray, List.set_cons_zero, List.set_cons_succ]
        refine takeV 5 (some 29) ((.slice (some ⟨p0', o', none⟩) b.length c')) rfl rfl (by kernel_rfl) (by kernel_rfl) (by kernel_rfl) (fun _ _ _ h => h) (by rfl) (by (intro _w _hSw; (try dsimp only at _hSw); go_simp)) (by assumption) ?_
        simp only [Act.put, List.setIfInBounds_toArray, List.set_cons_zero, List.set_cons_succ]
        refine takeV 6 (some 30) ((.int .i64 j)) rfl rfl (by kernel_rfl) (by kernel_rfl) (by kernel_rfl) (fun _ _ _ h => h) (by rfl) (by (intro _w _hSw; (try dsimp only at _hSw); go_simp)) (by assumption) ?_
        simp only [Act.put, List.setIfInBounds_toArray, List.set_cons_zero, List.set_cons_succ]
        refine takeV 7 (some 31) ((.pointer (some ⟨p0', o' + j * 5, none⟩))) rfl rfl (by kernel_rfl) (by kernel_rfl) (by kernel_rfl) (fun _ _ _ h => h) (by rfl) (by (intro _w _hSw; (try dsimp only at _hSw); go_simp)) (by assumption) ?_
        simp only [Act.put, List.setIfInBounds_toArray, List.set_cons_zero, List.set_cons_succ]
        refine takeV 8 (some 32) ((.pointer (some ⟨p0', o' + j * 5 + 2, none⟩))) rfl rfl (by kernel_rfl) (by kernel_rfl) (by kernel_rfl) (fun _ _ _ h => h) (by rfl) (by (intro _w _hSw; (try dsimp only at _hSw); go_simp)) (by assumption) ?_
        simp only [Act.put, List.setIfInBounds_toArray, List.set_cons_zero, List.set_cons_succ]
        refine takeV 9 (some 33) ((.agg #[.int .i64 q.k, .int .i64 q.m, .string q.s])) rfl rfl (by kernel_rfl) (by kernel_rfl) (by kernel_rfl) (fun _ _ _ h => h) (by rfl) (by (intro _w _hSw; (try dsimp only at _hSw); go_simp)) (by assumption) ?_
        simp only [Act.put, List.setIfInBounds_toArray, List.set_cons_zero, List.set_cons_succ]
        refine callV 10 rfl (by kernel_rfl) (by rfl) (fun K hK => ?_)
        go_simp
        go_at_call 29
        refine (refCompare_any _ _ _ _ _ _ _ (by omega) (by omega)).mono ?_
        rintro e w3 ⟨rfl, hb3⟩
        have g3 := s6n (B := w.heap.size) (by omega) (by omega) hHeld hb3
        refine hK.out _ _ g3 (fun hHeld3 => ?_)
        clear hK g3 K hHeld hb3
        try simp only [Act.put, List.setIfInBounds_toArray, List.set_cons_zero, List.set_cons_succ]
        refine takeV 11 (some 6) ((.int .i64 (ordV p.k p.m p.s q.k q.m q.s))) rfl rfl (by kernel_rfl) (by kernel_rfl) (by kernel_rfl) (fun _ _ _ h => h) (by rfl) (by (intro _w _hSw; (try dsimp only at _hSw); go_simp)) (by assumption) ?_
        simp only [Act.put, List.setIfInBounds_toArray, List.set_cons_zero, List.set_cons_succ]
        refine wpAnyH_done (by kernel_rfl) ?_ _
        obtain ⟨O, hO⟩ : ∃ O, ordV p.k p.m p.s q.k q.m q.s = O := ⟨_, rfl⟩
        rw [hO]
        have HOO := Lib.hid hO
        have HB3 : Hid (Below w.heap.size w w3) := hHeld3.2.2.2.2.2.2.1
        have hsz3 : w.heap.size ≤ w3.heap.size := hHeld3.2.2.2.2.2.2.2
        clear hO hHeld3
        by_cases h0 : O = 0
        · have HI : Hid (ordPF a b j = ordPF a b (j + 1)) := by
            show _ = _
            rw [HST.out, HO.out, HOO.out, if_pos h0]
          subst h0
          go_wp2
          go_roundg (gk - 1)
          case measure => omega
          case rel => exact ⟨j + 1, by go_num, by omega, by omega, by rw [← HJ.out, HI.out]; rfl, HB3.out, hsz3⟩
        · have HI : Hid (ordPF a b j = O) := by
            show _ = _
            rw [HST.out, HO.out, HOO.out, if_neg h0]
          have hb0 : (O != 0) = true := by simpa using h0
          clear h0
          go_wp2
          go_ret
          exact ⟨ret_i64 (by rw [← HJ.out, HI.out]), HB3.out⟩
    · have HE := Lib.hid (ordPF_end (a := a) (b := b) (j := j) (by omega))
      by_cases h2 : j < a.length
      · have hi1 : (j : Int) < (a.length : Int) := by omega
        have hi2 : ¬ (j : Int) < (b.length : Int) := by omega
        go_wp2
        go_ret
        exact ⟨ret_i64 (by rw [← HJ.out, HE.out]), HB.out⟩
      · have hi1 : ¬ (j : Int) < (a.length : Int) := by omega
        go_wp2
        go_ret
        exact ⟨ret_i64 (by rw [← HJ.out, HE.out]), HB.out⟩

end Go.Proofs.Ytkoknogefmfmnaa
