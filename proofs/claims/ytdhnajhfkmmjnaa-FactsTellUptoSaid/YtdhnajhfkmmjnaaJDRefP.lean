import Derived.Laws.AppendOwnNone
import Derived.Test.YtdhnajhfkmmjnaaJORdNum
import Derived.Test.YtdhnajhfkmmjnaaJORdRead
import Derived.Test.YtdhnajhfkmmjnaaJDCmp
/-
  CONTRACT: Value (the document's).
-/
namespace Go.Proofs.Ytdhnajhfkmmjnaa
open Go.RowKit Go.Shelf

theorem refMay_is {k n : Int} {s : ByteArray} {m : Bool} (w : World) (hs : s.size ≤ maxLen) (hm : mayB k n s = m) :
    Calls Try.prog 60 #[.agg #[.int .i64 k, .int .i64 n, .string s]] w fun e w' => e = .returned (.bool m) ∧ Below w.heap.size w w' :=
  (refMay_any k n s w hs).mono fun e w' ⟨h, hb⟩ => ⟨by rw [h, hm], hb⟩
theorem own_src {W : World} {B : Nat} {v : Value} {l : List UInt8} (h : OwnB W B v l) (hl : l ≠ []) : ∃ ad c, v = .slice (some ad) l.length c ∧ ad.block < W.heap.size ∧ ∀ j u, (cellsL l)[j]? = some u → W.cell? (ad.add j) = some u := by
  obtain ⟨A, c, rfl⟩ := ownB_form h
  obtain ⟨ad, rfl, hlt, hc⟩ := (SlB.of_own h).2 hl
  exact ⟨ad, c, rfl, hlt, fun j u hu => by obtain ⟨x, hx, rfl⟩ := cellsL_at hu; exact hc j x hx⟩
theorem numB_ne (n : Int) : numB n ≠ [] := by
  intro e
  have := congrArg List.length e
  rw [numB_len] at this
  cases this

end Go.Proofs.Ytdhnajhfkmmjnaa

/-
  CONTRACT: Read (the document's).
-/
namespace Go.Proofs.Ytdhnajhfkmmjnaa
open Go.RowKit Go.Shelf

theorem txtR_suf : ∀ {l s u : List UInt8}, txtR l = some (s, u) → u <:+ l
  | [], _, _, h => by cases h
  | [_], _, _, h => by cases h
  | c :: d :: r, s, u, h => by
    rw [txtR] at h
    by_cases hc : c = 0
    · rw [if_pos hc] at h
      by_cases h1 : d = 1
      · rw [if_pos h1] at h
        cases h
        exact ⟨[c, d], rfl⟩
      · rw [if_neg h1] at h
        by_cases h2 : d = 255
        · rw [if_pos h2] at h
          cases hr : txtR r with
          | none => rw [hr] at h; cases h
          | some p =>
            obtain ⟨s', u'⟩ := p
            rw [hr] at h
            have := txtR_suf hr
            cases h
            exact this.trans ⟨[c, d], rfl⟩
        · rw [if_neg h2] at h; cases h
    · rw [if_neg hc] at h
      cases hr : txtR (d :: r) with
      | none => rw [hr] at h; cases h
      | some p =>
        obtain ⟨s', u'⟩ := p
        rw [hr] at h
        have := txtR_suf hr
        cases h
        exact this.trans ⟨[c], rfl⟩
theorem oneR_suf {l t : List UInt8} {x : Int × Int × List UInt8} (h : oneR l = some (x, t)) : t <:+ l ∧ t.length < l.length := by
  cases l with
  | nil => cases h
  | cons c r =>
    simp only [oneR] at h
    by_cases h2 : c = 2
    · rw [if_pos h2] at h
      cases r with
      | nil => cases h
      | cons d u =>
        simp only at h
        split at h
        · cases h; exact ⟨⟨[c, d], rfl⟩, by simp only [List.length_cons]; omega⟩
        · cases h
    · rw [if_neg h2] at h
      by_cases h1 : c = 1 ∨ c = 5 ∨ c = 6
      · rw [if_pos h1] at h
        split at h
        · cases h; exact ⟨(List.drop_suffix 8 r).trans ⟨[c], rfl⟩, by simp only [List.length_cons, List.length_drop]; omega⟩
        · cases h
      · rw [if_neg h1] at h
        by_cases h3 : c = 3 ∨ c = 4 ∨ c = 7
        · rw [if_pos h3] at h
          cases hr : txtR r with
          | none => rw [hr] at h; cases h
          | some p =>
            obtain ⟨s, u⟩ := p
            rw [hr] at h
            simp only at h
            have h5 := txtR_suf hr
            have h6 := h5.length_le
            split at h
            · cases h; exact ⟨h5.trans ⟨[c], rfl⟩, by simp only [List.length_cons]; omega⟩
            · cases h
        · rw [if_neg h3] at h; cases h
theorem suf_drop {l t : List UInt8} (h : t <:+ l) : t = l.drop (l.length - t.length) := List.suffix_iff_eq_drop.1 h

/-- what was read up to a place -/
def RdAt (ks : List Bool) (b : List UInt8) (i at_ : Nat) (acc : List PartP) : Prop :=
  ∃ pre : List (PartP × List UInt8), pre.length = i ∧ pre.map (·.1) = acc ∧ pre ++ tellL (ks.drop i) (b.drop at_) = tellL ks b ∧ (pre.getLast?.map (·.2)).getD b = b.drop at_
theorem rdAt_start (ks : List Bool) (b : List UInt8) : RdAt ks b 0 0 [] := ⟨[], rfl, rfl, rfl, rfl⟩
theorem rdAt_step {ks : List Bool} {b t : List UInt8} {i at_ at' : Nat} {acc : List PartP} {p : PartP} (h : RdAt ks b i at_ acc) (hi : i < ks.length) (hp : partR ks[i] (b.drop at_) = some (p, t)) (ht : t = b.drop at') : RdAt ks b (i + 1) at' (acc ++ [p]) := by
  obtain ⟨pre, h1, h2, h3, _⟩ := h
  rw [List.drop_eq_getElem_cons hi, tellL, hp] at h3
  refine ⟨pre ++ [(p, t)], by rw [List.length_append, h1]; rfl, by rw [List.map_append, h2]; rfl, ?_, ?_⟩
  · rw [← h3, ← ht, List.append_assoc]; rfl
  · rw [List.getLast?_append]; simp [ht]
theorem rdAt_fail {ks : List Bool} {b : List UInt8} {i at_ : Nat} {acc : List PartP} (h : RdAt ks b i at_ acc) (hi : i < ks.length) (hp : partR ks[i] (b.drop at_) = none) : readL ks b = none := by
  obtain ⟨pre, h1, h2, h3, _⟩ := h
  rw [List.drop_eq_getElem_cons hi, tellL, hp, List.append_nil] at h3
  unfold readL
  rw [if_neg]
  intro h
  rw [← h3] at h
  omega
theorem rdAt_end {ks : List Bool} {b : List UInt8} {i at_ : Nat} {acc : List PartP} (h : RdAt ks b i at_ acc) (hi : i = ks.length) : readL ks b = if b.length ≤ at_ then some acc else none := by
  obtain ⟨pre, h1, h2, h3, h4⟩ := h
  rw [List.drop_of_length_le (by omega), tellL, List.append_nil] at h3
  unfold readL
  rw [← h3, h4, h2]
  by_cases hb : b.length ≤ at_
  · rw [if_pos hb, if_pos ⟨by omega, List.drop_of_length_le hb⟩]
  · rw [if_neg hb, if_neg]
    intro h
    have := congrArg List.length h.2
    rw [List.length_drop] at this
    simp at this
    omega

/-- where a slice's rest stands -/
def cutA (A : Option Addr) (c k : Nat) : Option Addr := if c = k then A else A.map (·.add k)
theorem SlB.cutAt {W : World} {B : Nat} {A : Option Addr} {l : List UInt8} (h : SlB W B A l) {c : Nat} (hlc : l.length ≤ c) (k : Nat) : SlB W B (cutA A c k) (l.drop k) := by
  cases A with
  | none =>
    have h0 : l = [] := by
      by_cases hl : l = []
      · exact hl
      · obtain ⟨a, e, _⟩ := h hl
        cases e
    subst h0
    intro hl
    simp at hl
  | some a =>
    unfold cutA
    intro hl
    have hk : k < l.length := by
      refine Nat.lt_of_not_le fun e => hl ?_
      rw [List.drop_of_length_le e]
    have hck : c ≠ k := by omega
    rw [if_neg hck]
    obtain ⟨a', e, hlt, hc⟩ := h (by intro e; rw [e] at hk; simp at hk)
    cases e
    refine ⟨a.add k, rfl, by rw [add_block]; exact hlt, fun j x hx => ?_⟩
    rw [List.getElem?_drop] at hx
    rw [Go.Deep.add_add]
    exact hc _ x hx

theorem below_ownP {W w1 : World} {B : Nat} {v : Value} {l : List PartP} (h : OwnP W B v l) (hg : W.grownBy w1 v.ownBlock) (hB : B ≤ W.heap.size) : Below B W w1 :=
  (Below.refl B W).grown hg hB (fun k hk => (World.ownsRow.lt h k hk).1)
theorem OwnP.next {W W' : World} {B : Nat} {v : Value} {l : List PartP} (h : OwnP W B v l) (hb : Below W.heap.size W W') : OwnP W' B v l := h.kept (row := none) ⟨hb.os, hb.tape, hb.output, hb.size, fun k hk _ => hb.block k hk⟩ (fun r e => (by cases e))
theorem ownP_snoc {W : World} {B : Nat} {v : Value} {l : List PartP} {p : PartP} (h : W.ownsRow B 171 5 v (l.length + 1) (l.flatMap cellsP ++ cellsP p)) : OwnP W B v (l ++ [p]) := by
  show World.ownsRow _ _ _ _ _ _ _
  simpa using h

end Go.Proofs.Ytdhnajhfkmmjnaa

/-
  CONTRACTS of the document's own answer over datoms: shape, Parts.
-/
namespace Go.Proofs.Ytdhnajhfkmmjnaa
open Go.RowKit

theorem OwnP.low {W : World} {B B' : Nat} {v : Value} {l : List PartP} (h : OwnP W B v l) (hB : B' ≤ B) : OwnP W B' v l := by
  refine ⟨h.1, ?_⟩
  rcases h.2 with h | ⟨g, cap, cur, h1, h2, h3⟩
  · exact .inl h
  · exact .inr ⟨g, cap, cur, h1, by omega, h3⟩
theorem ownP_app {W : World} {B : Nat} {v : Value} {l r : List PartP} {m : Nat} (h : W.ownsRow B 171 5 v (l.length + m) (l.flatMap cellsP ++ r.flatMap cellsP)) (hm : r.length = m) : OwnP W B v (l ++ r) := by
  show World.ownsRow _ _ _ _ _ _ _
  rw [List.length_append, List.flatMap_append, hm]
  exact h

set_option maxHeartbeats 400000 in
theorem shape_1 (w : World) : Calls Try.prog 132 #[.int .i64 1] w fun e w' => e = .returned (.string ⟨#[101, 97, 118]⟩) ∧ w = w' := by
  go_enter Try.func132, Try.ntmps132
  go_wp2
  go_ret
  exact ⟨rfl, rfl⟩

set_option maxHeartbeats 400000 in
theorem shape_2 (w : World) : Calls Try.prog 132 #[.int .i64 2] w fun e w' => e = .returned (.string ⟨#[97, 101, 118]⟩) ∧ w = w' := by
  go_enter Try.func132, Try.ntmps132
  go_wp2
  go_ret
  exact ⟨rfl, rfl⟩

set_option maxHeartbeats 400000 in
theorem shape_3 (w : World) : Calls Try.prog 132 #[.int .i64 3] w fun e w' => e = .returned (.string ⟨#[97, 118, 101]⟩) ∧ w = w' := by
  go_enter Try.func132, Try.ntmps132
  go_wp2
  go_ret
  exact ⟨rfl, rfl⟩

set_option maxHeartbeats 400000 in
theorem shape_4 (w : World) : Calls Try.prog 132 #[.int .i64 4] w fun e w' => e = .returned (.string ⟨#[118, 97, 101]⟩) ∧ w = w' := by
  go_enter Try.func132, Try.ntmps132
  go_wp2
  go_ret
  exact ⟨rfl, rfl⟩

set_option maxRecDepth 100000 in
set_option maxHeartbeats 2000000 in
theorem refParts_1 (d : Dat) (w : World) : Calls Try.prog 113 #[.int .i64 1, .agg #[.int .i64 d.e, .int .i64 d.a, .int .i64 d.k, .int .i64 d.m, .string d.s, .int .i64 d.t, .bool d.add, .int .i64 d.fr, .int .i64 d.til]] w fun e w' => ∃ v, e = .returned v ∧ OwnP w' w.heap.size v (partsD 1 d) ∧ Below w.heap.size w w' := by
  obtain ⟨i0, hi, hz0, hz1, hz2⟩ := info_parts info44
  have hmx : 50000 ≤ maxLen := by decide
  obtain ⟨w0, hw0⟩ : ∃ w0, w.alloc (.cells #[.int .i64 d.e, .int .i64 d.a, .int .i64 d.k, .int .i64 d.m, .string d.s, .int .i64 d.t, .bool d.add, .int .i64 d.fr, .int .i64 d.til] 76) = w0 := ⟨_, rfl⟩
  have HD0 : Hid (DatAt w0 w.heap.size d) := by rw [← hw0]; exact datAt_new w d
  have HB0 : Hid (Below w.heap.size w w0) := by rw [← hw0]; exact (Below.refl _ _).alloc (Nat.le_refl _) _
  have hz : w0.heap.size = w.heap.size + 1 := by rw [← hw0]; simp
  have HW0 := Lib.hid hw0
  clear hw0
  go_enter Try.func113, Try.ntmps113
  go_upto_region 1 with (fail)
  rw [HW0.out]
  go_wp2_with fail
  refine (shape_1 _).mono ?_
  rintro e w1 ⟨rfl, rfl⟩
  go_wp2
  go_loopg [6, 7] 3 (fun g x y wr => ∃ (j : Nat) (acc : List PartP), y = .int .i64 j ∧ j + g = 3 ∧ acc.length = j ∧ Hid (acc = (partsD 1 d).take j) ∧ Hid (OwnP wr (w.heap.size + 1) x acc) ∧ Hid (Below (w.heap.size + 1) w0 wr) ∧ w.heap.size + 1 ≤ wr.heap.size)
  case atStart => exact ⟨0, [], rfl, by omega, rfl, rfl, World.ownsRow_nil _ _ _ _, Below.refl _ _, by omega⟩
  case round =>
    obtain ⟨j, acc, rfl, hg, hal, HA, HO, HB, hsz⟩ := hrel
    have hx := HD0.out.next HB.out (Nat.lt_succ_self _)
    rcases (by omega : j = 0 ∨ j = 1 ∨ j = 2 ∨ j = 3) with rfl | rfl | rfl | rfl
    · have c0 := hx.c0
      obtain rfl : gk = 3 := by omega
      clear hx
      go_wp2_with (at_builtin; refine wpList_append_own _ rfl _ _ 152 rfl (w.heap.size + 1) 171 i0 (.agg #[.bool false, .int .i64 0, .int .i64 0, .int .i64 0, .string ⟨#[]⟩]) 5 48 Try.underlying152 hi hz0 hz1 hz2 rfl (by decide) _ acc.length _ rfl (HO.out.alloc _) ⟨wr.heap.size, 0, none⟩ 1 1 (cellsP (numP d.e)) rfl rfl (fun j u h => cell_lit _ _ _ j u h) (cellsP_one (numP d.e)) (by omega) (by omega) (by simp; omega) ?_; intro v' w4 hown' hgrow _)
      have hB4 := (HB.out.alloc hsz _).trans (below_ownP (HO.out.alloc _) hgrow (by simp; omega))
      go_roundg 2
      case measure => omega
      case rel => exact ⟨1, acc ++ [numP d.e], rfl, by omega, by rw [List.length_append, hal]; rfl, (by show _ = _; rw [HA.out]; rfl), ownP_snoc hown', hB4, by have := hB4.size; omega⟩
    · have c1 := hx.c1
      obtain rfl : gk = 2 := by omega
      clear hx
      go_wp2_with (at_builtin; refine wpList_append_own _ rfl _ _ 152 rfl (w.heap.size + 1) 171 i0 (.agg #[.bool false, .int .i64 0, .int .i64 0, .int .i64 0, .string ⟨#[]⟩]) 5 48 Try.underlying152 hi hz0 hz1 hz2 rfl (by decide) _ acc.length _ rfl (HO.out.alloc _) ⟨wr.heap.size, 0, none⟩ 1 1 (cellsP (numP d.a)) rfl rfl (fun j u h => cell_lit _ _ _ j u h) (cellsP_one (numP d.a)) (by omega) (by omega) (by simp; omega) ?_; intro v' w4 hown' hgrow _)
      have hB4 := (HB.out.alloc hsz _).trans (below_ownP (HO.out.alloc _) hgrow (by simp; omega))
      go_roundg 1
      case measure => omega
      case rel => exact ⟨2, acc ++ [numP d.a], rfl, by omega, by rw [List.length_append, hal]; rfl, (by show _ = _; rw [HA.out]; rfl), ownP_snoc hown', hB4, by have := hB4.size; omega⟩
    · have c2 := hx.c2
      have c3 := hx.c3
      have c4 := hx.c4
      obtain rfl : gk = 1 := by omega
      clear hx
      go_wp2_with (at_builtin; refine wpList_append_own _ rfl _ _ 152 rfl (w.heap.size + 1) 171 i0 (.agg #[.bool false, .int .i64 0, .int .i64 0, .int .i64 0, .string ⟨#[]⟩]) 5 48 Try.underlying152 hi hz0 hz1 hz2 rfl (by decide) _ acc.length _ rfl (HO.out.alloc _) ⟨wr.heap.size, 0, none⟩ 1 1 (cellsP (valP d)) rfl rfl (fun j u h => cell_lit _ _ _ j u h) (cellsP_one (valP d)) (by omega) (by omega) (by simp; omega) ?_; intro v' w4 hown' hgrow _)
      have hB4 := (HB.out.alloc hsz _).trans (below_ownP (HO.out.alloc _) hgrow (by simp; omega))
      go_roundg 0
      case measure => omega
      case rel => exact ⟨3, acc ++ [valP d], rfl, by omega, by rw [List.length_append, hal]; rfl, (by show _ = _; rw [HA.out]; rfl), ownP_snoc hown', hB4, by have := hB4.size; omega⟩
    · have c3 := hx.c5
      have c4 := hx.c6
      have c5 := hx.c7
      have c6 := hx.c8
      obtain rfl : gk = 0 := by omega
      obtain ⟨av, hav⟩ : ∃ av, d.add = av := ⟨_, rfl⟩
      rw [hav] at c4
      have HAV := Lib.hid hav
      clear hx hav
      cases av
      · go_wp2_with (at_builtin; refine wpList_append_own _ rfl _ _ 152 rfl (w.heap.size + 1) 171 i0 (.agg #[.bool false, .int .i64 0, .int .i64 0, .int .i64 0, .string ⟨#[]⟩]) 5 48 Try.underlying152 hi hz0 hz1 hz2 rfl (by decide) _ acc.length _ rfl (HO.out.alloc _) ⟨wr.heap.size, 0, none⟩ 4 4 ([numP d.t, numP 1, numP d.fr, numP d.til].flatMap cellsP) rfl rfl (fun j u h => cell_lit _ _ _ j u h) (fun u hu => by obtain ⟨p, _, hp⟩ := List.mem_flatMap.1 hu; exact cellsP_one p u hp) (by omega) (by omega) (by simp; omega) ?_; intro v' w4 hown' hgrow _)
        have HB4 := Lib.hid ((HB.out.alloc hsz _).trans (below_ownP (HO.out.alloc _) hgrow (by simp; omega)))
        have HO4 : Hid (OwnP w4 (w.heap.size + 1) v' (partsD 1 d)) := by
          have h9 : acc ++ [numP d.t, numP 1, numP d.fr, numP d.til] = partsD 1 d := by
            rw [HA.out]
            have h8 : cutN d.add = 1 := by rw [HAV.out]; rfl
            show [numP d.e, numP d.a, valP d] ++ [numP d.t, numP 1, numP d.fr, numP d.til] = [numP d.e, numP d.a, valP d, numP d.t, numP (cutN d.add), numP d.fr, numP d.til]
            rw [h8]; rfl
          show OwnP _ _ _ _
          rw [← h9]
          exact ownP_app hown' rfl
        clear hown' hgrow
        go_ret
        exact ⟨_, rfl, HO4.out.low (by omega), HB0.out.trans (HB4.out.mono (by omega))⟩
      · go_wp2_with (at_builtin; refine wpList_append_own _ rfl _ _ 152 rfl (w.heap.size + 1) 171 i0 (.agg #[.bool false, .int .i64 0, .int .i64 0, .int .i64 0, .string ⟨#[]⟩]) 5 48 Try.underlying152 hi hz0 hz1 hz2 rfl (by decide) _ acc.length _ rfl (HO.out.alloc _) ⟨wr.heap.size, 0, none⟩ 4 4 ([numP d.t, numP 0, numP d.fr, numP d.til].flatMap cellsP) rfl rfl (fun j u h => cell_lit _ _ _ j u h) (fun u hu => by obtain ⟨p, _, hp⟩ := List.mem_flatMap.1 hu; exact cellsP_one p u hp) (by omega) (by omega) (by simp; omega) ?_; intro v' w4 hown' hgrow _)
        have HB4 := Lib.hid ((HB.out.alloc hsz _).trans (below_ownP (HO.out.alloc _) hgrow (by simp; omega)))
        have HO4 : Hid (OwnP w4 (w.heap.size + 1) v' (partsD 1 d)) := by
          have h9 : acc ++ [numP d.t, numP 0, numP d.fr, numP d.til] = partsD 1 d := by
            rw [HA.out]
            have h8 : cutN d.add = 0 := by rw [HAV.out]; rfl
            show [numP d.e, numP d.a, valP d] ++ [numP d.t, numP 0, numP d.fr, numP d.til] = [numP d.e, numP d.a, valP d, numP d.t, numP (cutN d.add), numP d.fr, numP d.til]
            rw [h8]; rfl
          show OwnP _ _ _ _
          rw [← h9]
          exact ownP_app hown' rfl
        clear hown' hgrow
        go_ret
        exact ⟨_, rfl, HO4.out.low (by omega), HB0.out.trans (HB4.out.mono (by omega))⟩
set_option maxRecDepth 100000 in
set_option maxHeartbeats 2000000 in
theorem refParts_2 (d : Dat) (w : World) : Calls Try.prog 113 #[.int .i64 2, .agg #[.int .i64 d.e, .int .i64 d.a, .int .i64 d.k, .int .i64 d.m, .string d.s, .int .i64 d.t, .bool d.add, .int .i64 d.fr, .int .i64 d.til]] w fun e w' => ∃ v, e = .returned v ∧ OwnP w' w.heap.size v (partsD 2 d) ∧ Below w.heap.size w w' := by
  obtain ⟨i0, hi, hz0, hz1, hz2⟩ := info_parts info44
  have hmx : 50000 ≤ maxLen := by decide
  obtain ⟨w0, hw0⟩ : ∃ w0, w.alloc (.cells #[.int .i64 d.e, .int .i64 d.a, .int .i64 d.k, .int .i64 d.m, .string d.s, .int .i64 d.t, .bool d.add, .int .i64 d.fr, .int .i64 d.til] 76) = w0 := ⟨_, rfl⟩
  have HD0 : Hid (DatAt w0 w.heap.size d) := by rw [← hw0]; exact datAt_new w d
  have HB0 : Hid (Below w.heap.size w w0) := by rw [← hw0]; exact (Below.refl _ _).alloc (Nat.le_refl _) _
  have hz : w0.heap.size = w.heap.size + 1 := by rw [← hw0]; simp
  have HW0 := Lib.hid hw0
  clear hw0
  go_enter Try.func113, Try.ntmps113
  go_upto_region 1 with (fail)
  rw [HW0.out]
  go_wp2_with fail
  refine (shape_2 _).mono ?_
  rintro e w1 ⟨rfl, rfl⟩
  go_wp2
  go_loopg [6, 7] 3 (fun g x y wr => ∃ (j : Nat) (acc : List PartP), y = .int .i64 j ∧ j + g = 3 ∧ acc.length = j ∧ Hid (acc = (partsD 2 d).take j) ∧ Hid (OwnP wr (w.heap.size + 1) x acc) ∧ Hid (Below (w.heap.size + 1) w0 wr) ∧ w.heap.size + 1 ≤ wr.heap.size)
  case atStart => exact ⟨0, [], rfl, by omega, rfl, rfl, World.ownsRow_nil _ _ _ _, Below.refl _ _, by omega⟩
  case round =>
    obtain ⟨j, acc, rfl, hg, hal, HA, HO, HB, hsz⟩ := hrel
    have hx := HD0.out.next HB.out (Nat.lt_succ_self _)
    rcases (by omega : j = 0 ∨ j = 1 ∨ j = 2 ∨ j = 3) with rfl | rfl | rfl | rfl
    · have c1 := hx.c1
      obtain rfl : gk = 3 := by omega
      clear hx
      go_wp2_with (at_builtin; refine wpList_append_own _ rfl _ _ 152 rfl (w.heap.size + 1) 171 i0 (.agg #[.bool false, .int .i64 0, .int .i64 0, .int .i64 0, .string ⟨#[]⟩]) 5 48 Try.underlying152 hi hz0 hz1 hz2 rfl (by decide) _ acc.length _ rfl (HO.out.alloc _) ⟨wr.heap.size, 0, none⟩ 1 1 (cellsP (numP d.a)) rfl rfl (fun j u h => cell_lit _ _ _ j u h) (cellsP_one (numP d.a)) (by omega) (by omega) (by simp; omega) ?_; intro v' w4 hown' hgrow _)
      have hB4 := (HB.out.alloc hsz _).trans (below_ownP (HO.out.alloc _) hgrow (by simp; omega))
      go_roundg 2
      case measure => omega
      case rel => exact ⟨1, acc ++ [numP d.a], rfl, by omega, by rw [List.length_append, hal]; rfl, (by show _ = _; rw [HA.out]; rfl), ownP_snoc hown', hB4, by have := hB4.size; omega⟩
    · have c0 := hx.c0
      obtain rfl : gk = 2 := by omega
      clear hx
      go_wp2_with (at_builtin; refine wpList_append_own _ rfl _ _ 152 rfl (w.heap.size + 1) 171 i0 (.agg #[.bool false, .int .i64 0, .int .i64 0, .int .i64 0, .string ⟨#[]⟩]) 5 48 Try.underlying152 hi hz0 hz1 hz2 rfl (by decide) _ acc.length _ rfl (HO.out.alloc _) ⟨wr.heap.size, 0, none⟩ 1 1 (cellsP (numP d.e)) rfl rfl (fun j u h => cell_lit _ _ _ j u h) (cellsP_one (numP d.e)) (by omega) (by omega) (by simp; omega) ?_; intro v' w4 hown' hgrow _)
      have hB4 := (HB.out.alloc hsz _).trans (below_ownP (HO.out.alloc _) hgrow (by simp; omega))
      go_roundg 1
      case measure => omega
      case rel => exact ⟨2, acc ++ [numP d.e], rfl, by omega, by rw [List.length_append, hal]; rfl, (by show _ = _; rw [HA.out]; rfl), ownP_snoc hown', hB4, by have := hB4.size; omega⟩
    · have c2 := hx.c2
      have c3 := hx.c3
      have c4 := hx.c4
      obtain rfl : gk = 1 := by omega
      clear hx
      go_wp2_with (at_builtin; refine wpList_append_own _ rfl _ _ 152 rfl (w.heap.size + 1) 171 i0 (.agg #[.bool false, .int .i64 0, .int .i64 0, .int .i64 0, .string ⟨#[]⟩]) 5 48 Try.underlying152 hi hz0 hz1 hz2 rfl (by decide) _ acc.length _ rfl (HO.out.alloc _) ⟨wr.heap.size, 0, none⟩ 1 1 (cellsP (valP d)) rfl rfl (fun j u h => cell_lit _ _ _ j u h) (cellsP_one (valP d)) (by omega) (by omega) (by simp; omega) ?_; intro v' w4 hown' hgrow _)
      have hB4 := (HB.out.alloc hsz _).trans (below_ownP (HO.out.alloc _) hgrow (by simp; omega))
      go_roundg 0
      case measure => omega
      case rel => exact ⟨3, acc ++ [valP d], rfl, by omega, by rw [List.length_append, hal]; rfl, (by show _ = _; rw [HA.out]; rfl), ownP_snoc hown', hB4, by have := hB4.size; omega⟩
    · have c3 := hx.c5
      have c4 := hx.c6
      have c5 := hx.c7
      have c6 := hx.c8
      obtain rfl : gk = 0 := by omega
      obtain ⟨av, hav⟩ : ∃ av, d.add = av := ⟨_, rfl⟩
      rw [hav] at c4
      have HAV := Lib.hid hav
      clear hx hav
      cases av
      · go_wp2_with (at_builtin; refine wpList_append_own _ rfl _ _ 152 rfl (w.heap.size + 1) 171 i0 (.agg #[.bool false, .int .i64 0, .int .i64 0, .int .i64 0, .string ⟨#[]⟩]) 5 48 Try.underlying152 hi hz0 hz1 hz2 rfl (by decide) _ acc.length _ rfl (HO.out.alloc _) ⟨wr.heap.size, 0, none⟩ 4 4 ([numP d.t, numP 1, numP d.fr, numP d.til].flatMap cellsP) rfl rfl (fun j u h => cell_lit _ _ _ j u h) (fun u hu => by obtain ⟨p, _, hp⟩ := List.mem_flatMap.1 hu; exact cellsP_one p u hp) (by omega) (by omega) (by simp; omega) ?_; intro v' w4 hown' hgrow _)
        have HB4 := Lib.hid ((HB.out.alloc hsz _).trans (below_ownP (HO.out.alloc _) hgrow (by simp; omega)))
        have HO4 : Hid (OwnP w4 (w.heap.size + 1) v' (partsD 2 d)) := by
          have h9 : acc ++ [numP d.t, numP 1, numP d.fr, numP d.til] = partsD 2 d := by
            rw [HA.out]
            have h8 : cutN d.add = 1 := by rw [HAV.out]; rfl
            show [numP d.a, numP d.e, valP d] ++ [numP d.t, numP 1, numP d.fr, numP d.til] = [numP d.a, numP d.e, valP d, numP d.t, numP (cutN d.add), numP d.fr, numP d.til]
            rw [h8]; rfl
          show OwnP _ _ _ _
          rw [← h9]
          exact ownP_app hown' rfl
        clear hown' hgrow
        go_ret
        exact ⟨_, rfl, HO4.out.low (by omega), HB0.out.trans (HB4.out.mono (by omega))⟩
      · go_wp2_with (at_builtin; refine wpList_append_own _ rfl _ _ 152 rfl (w.heap.size + 1) 171 i0 (.agg #[.bool false, .int .i64 0, .int .i64 0, .int .i64 0, .string ⟨#[]⟩]) 5 48 Try.underlying152 hi hz0 hz1 hz2 rfl (by decide) _ acc.length _ rfl (HO.out.alloc _) ⟨wr.heap.size, 0, none⟩ 4 4 ([numP d.t, numP 0, numP d.fr, numP d.til].flatMap cellsP) rfl rfl (fun j u h => cell_lit _ _ _ j u h) (fun u hu => by obtain ⟨p, _, hp⟩ := List.mem_flatMap.1 hu; exact cellsP_one p u hp) (by omega) (by omega) (by simp; omega) ?_; intro v' w4 hown' hgrow _)
        have HB4 := Lib.hid ((HB.out.alloc hsz _).trans (below_ownP (HO.out.alloc _) hgrow (by simp; omega)))
        have HO4 : Hid (OwnP w4 (w.heap.size + 1) v' (partsD 2 d)) := by
          have h9 : acc ++ [numP d.t, numP 0, numP d.fr, numP d.til] = partsD 2 d := by
            rw [HA.out]
            have h8 : cutN d.add = 0 := by rw [HAV.out]; rfl
            show [numP d.a, numP d.e, valP d] ++ [numP d.t, numP 0, numP d.fr, numP d.til] = [numP d.a, numP d.e, valP d, numP d.t, numP (cutN d.add), numP d.fr, numP d.til]
            rw [h8]; rfl
          show OwnP _ _ _ _
          rw [← h9]
          exact ownP_app hown' rfl
        clear hown' hgrow
        go_ret
        exact ⟨_, rfl, HO4.out.low (by omega), HB0.out.trans (HB4.out.mono (by omega))⟩
set_option maxRecDepth 100000 in
set_option maxHeartbeats 2000000 in
theorem refParts_3 (d : Dat) (w : World) : Calls Try.prog 113 #[.int .i64 3, .agg #[.int .i64 d.e, .int .i64 d.a, .int .i64 d.k, .int .i64 d.m, .string d.s, .int .i64 d.t, .bool d.add, .int .i64 d.fr, .int .i64 d.til]] w fun e w' => ∃ v, e = .returned v ∧ OwnP w' w.heap.size v (partsD 3 d) ∧ Below w.heap.size w w' := by
  obtain ⟨i0, hi, hz0, hz1, hz2⟩ := info_parts info44
  have hmx : 50000 ≤ maxLen := by decide
  obtain ⟨w0, hw0⟩ : ∃ w0, w.alloc (.cells #[.int .i64 d.e, .int .i64 d.a, .int .i64 d.k, .int .i64 d.m, .string d.s, .int .i64 d.t, .bool d.add, .int .i64 d.fr, .int .i64 d.til] 76) = w0 := ⟨_, rfl⟩
  have HD0 : Hid (DatAt w0 w.heap.size d) := by rw [← hw0]; exact datAt_new w d
  have HB0 : Hid (Below w.heap.size w w0) := by rw [← hw0]; exact (Below.refl _ _).alloc (Nat.le_refl _) _
  have hz : w0.heap.size = w.heap.size + 1 := by rw [← hw0]; simp
  have HW0 := Lib.hid hw0
  clear hw0
  go_enter Try.func113, Try.ntmps113
  go_upto_region 1 with (fail)
  rw [HW0.out]
  go_wp2_with fail
  refine (shape_3 _).mono ?_
  rintro e w1 ⟨rfl, rfl⟩
  go_wp2
  go_loopg [6, 7] 3 (fun g x y wr => ∃ (j : Nat) (acc : List PartP), y = .int .i64 j ∧ j + g = 3 ∧ acc.length = j ∧ Hid (acc = (partsD 3 d).take j) ∧ Hid (OwnP wr (w.heap.size + 1) x acc) ∧ Hid (Below (w.heap.size + 1) w0 wr) ∧ w.heap.size + 1 ≤ wr.heap.size)
  case atStart => exact ⟨0, [], rfl, by omega, rfl, rfl, World.ownsRow_nil _ _ _ _, Below.refl _ _, by omega⟩
  case round =>
    obtain ⟨j, acc, rfl, hg, hal, HA, HO, HB, hsz⟩ := hrel
    have hx := HD0.out.next HB.out (Nat.lt_succ_self _)
    rcases (by omega : j = 0 ∨ j = 1 ∨ j = 2 ∨ j = 3) with rfl | rfl | rfl | rfl
    · have c1 := hx.c1
      obtain rfl : gk = 3 := by omega
      clear hx
      go_wp2_with (at_builtin; refine wpList_append_own _ rfl _ _ 152 rfl (w.heap.size + 1) 171 i0 (.agg #[.bool false, .int .i64 0, .int .i64 0, .int .i64 0, .string ⟨#[]⟩]) 5 48 Try.underlying152 hi hz0 hz1 hz2 rfl (by decide) _ acc.length _ rfl (HO.out.alloc _) ⟨wr.heap.size, 0, none⟩ 1 1 (cellsP (numP d.a)) rfl rfl (fun j u h => cell_lit _ _ _ j u h) (cellsP_one (numP d.a)) (by omega) (by omega) (by simp; omega) ?_; intro v' w4 hown' hgrow _)
      have hB4 := (HB.out.alloc hsz _).trans (below_ownP (HO.out.alloc _) hgrow (by simp; omega))
      go_roundg 2
      case measure => omega
      case rel => exact ⟨1, acc ++ [numP d.a], rfl, by omega, by rw [List.length_append, hal]; rfl, (by show _ = _; rw [HA.out]; rfl), ownP_snoc hown', hB4, by have := hB4.size; omega⟩
    · have c2 := hx.c2
      have c3 := hx.c3
      have c4 := hx.c4
      obtain rfl : gk = 2 := by omega
      clear hx
      go_wp2_with (at_builtin; refine wpList_append_own _ rfl _ _ 152 rfl (w.heap.size + 1) 171 i0 (.agg #[.bool false, .int .i64 0, .int .i64 0, .int .i64 0, .string ⟨#[]⟩]) 5 48 Try.underlying152 hi hz0 hz1 hz2 rfl (by decide) _ acc.length _ rfl (HO.out.alloc _) ⟨wr.heap.size, 0, none⟩ 1 1 (cellsP (valP d)) rfl rfl (fun j u h => cell_lit _ _ _ j u h) (cellsP_one (valP d)) (by omega) (by omega) (by simp; omega) ?_; intro v' w4 hown' hgrow _)
      have hB4 := (HB.out.alloc hsz _).trans (below_ownP (HO.out.alloc _) hgrow (by simp; omega))
      go_roundg 1
      case measure => omega
      case rel => exact ⟨2, acc ++ [valP d], rfl, by omega, by rw [List.length_append, hal]; rfl, (by show _ = _; rw [HA.out]; rfl), ownP_snoc hown', hB4, by have := hB4.size; omega⟩
    · have c0 := hx.c0
      obtain rfl : gk = 1 := by omega
      clear hx
      go_wp2_with (at_builtin; refine wpList_append_own _ rfl _ _ 152 rfl (w.heap.size + 1) 171 i0 (.agg #[.bool false, .int .i64 0, .int .i64 0, .int .i64 0, .string ⟨#[]⟩]) 5 48 Try.underlying152 hi hz0 hz1 hz2 rfl (by decide) _ acc.length _ rfl (HO.out.alloc _) ⟨wr.heap.size, 0, none⟩ 1 1 (cellsP (numP d.e)) rfl rfl (fun j u h => cell_lit _ _ _ j u h) (cellsP_one (numP d.e)) (by omega) (by omega) (by simp; omega) ?_; intro v' w4 hown' hgrow _)
      have hB4 := (HB.out.alloc hsz _).trans (below_ownP (HO.out.alloc _) hgrow (by simp; omega))
      go_roundg 0
      case measure => omega
      case rel => exact ⟨3, acc ++ [numP d.e], rfl, by omega, by rw [List.length_append, hal]; rfl, (by show _ = _; rw [HA.out]; rfl), ownP_snoc hown', hB4, by have := hB4.size; omega⟩
    · have c3 := hx.c5
      have c4 := hx.c6
      have c5 := hx.c7
      have c6 := hx.c8
      obtain rfl : gk = 0 := by omega
      obtain ⟨av, hav⟩ : ∃ av, d.add = av := ⟨_, rfl⟩
      rw [hav] at c4
      have HAV := Lib.hid hav
      clear hx hav
      cases av
      · go_wp2_with (at_builtin; refine wpList_append_own _ rfl _ _ 152 rfl (w.heap.size + 1) 171 i0 (.agg #[.bool false, .int .i64 0, .int .i64 0, .int .i64 0, .string ⟨#[]⟩]) 5 48 Try.underlying152 hi hz0 hz1 hz2 rfl (by decide) _ acc.length _ rfl (HO.out.alloc _) ⟨wr.heap.size, 0, none⟩ 4 4 ([numP d.t, numP 1, numP d.fr, numP d.til].flatMap cellsP) rfl rfl (fun j u h => cell_lit _ _ _ j u h) (fun u hu => by obtain ⟨p, _, hp⟩ := List.mem_flatMap.1 hu; exact cellsP_one p u hp) (by omega) (by omega) (by simp; omega) ?_; intro v' w4 hown' hgrow _)
        have HB4 := Lib.hid ((HB.out.alloc hsz _).trans (below_ownP (HO.out.alloc _) hgrow (by simp; omega)))
        have HO4 : Hid (OwnP w4 (w.heap.size + 1) v' (partsD 3 d)) := by
          have h9 : acc ++ [numP d.t, numP 1, numP d.fr, numP d.til] = partsD 3 d := by
            rw [HA.out]
            have h8 : cutN d.add = 1 := by rw [HAV.out]; rfl
            show [numP d.a, valP d, numP d.e] ++ [numP d.t, numP 1, numP d.fr, numP d.til] = [numP d.a, valP d, numP d.e, numP d.t, numP (cutN d.add), numP d.fr, numP d.til]
            rw [h8]; rfl
          show OwnP _ _ _ _
          rw [← h9]
          exact ownP_app hown' rfl
        clear hown' hgrow
        go_ret
        exact ⟨_, rfl, HO4.out.low (by omega), HB0.out.trans (HB4.out.mono (by omega))⟩
      · go_wp2_with (at_builtin; refine wpList_append_own _ rfl _ _ 152 rfl (w.heap.size + 1) 171 i0 (.agg #[.bool false, .int .i64 0, .int .i64 0, .int .i64 0, .string ⟨#[]⟩]) 5 48 Try.underlying152 hi hz0 hz1 hz2 rfl (by decide) _ acc.length _ rfl (HO.out.alloc _) ⟨wr.heap.size, 0, none⟩ 4 4 ([numP d.t, numP 0, numP d.fr, numP d.til].flatMap cellsP) rfl rfl (fun j u h => cell_lit _ _ _ j u h) (fun u hu => by obtain ⟨p, _, hp⟩ := List.mem_flatMap.1 hu; exact cellsP_one p u hp) (by omega) (by omega) (by simp; omega) ?_; intro v' w4 hown' hgrow _)
        have HB4 := Lib.hid ((HB.out.alloc hsz _).trans (below_ownP (HO.out.alloc _) hgrow (by simp; omega)))
        have HO4 : Hid (OwnP w4 (w.heap.size + 1) v' (partsD 3 d)) := by
          have h9 : acc ++ [numP d.t, numP 0, numP d.fr, numP d.til] = partsD 3 d := by
            rw [HA.out]
            have h8 : cutN d.add = 0 := by rw [HAV.out]; rfl
            show [numP d.a, valP d, numP d.e] ++ [numP d.t, numP 0, numP d.fr, numP d.til] = [numP d.a, valP d, numP d.e, numP d.t, numP (cutN d.add), numP d.fr, numP d.til]
            rw [h8]; rfl
          show OwnP _ _ _ _
          rw [← h9]
          exact ownP_app hown' rfl
        clear hown' hgrow
        go_ret
        exact ⟨_, rfl, HO4.out.low (by omega), HB0.out.trans (HB4.out.mono (by omega))⟩
set_option maxRecDepth 100000 in
set_option maxHeartbeats 2000000 in
theorem refParts_4 (d : Dat) (w : World) : Calls Try.prog 113 #[.int .i64 4, .agg #[.int .i64 d.e, .int .i64 d.a, .int .i64 d.k, .int .i64 d.m, .string d.s, .int .i64 d.t, .bool d.add, .int .i64 d.fr, .int .i64 d.til]] w fun e w' => ∃ v, e = .returned v ∧ OwnP w' w.heap.size v (partsD 4 d) ∧ Below w.heap.size w w' := by
  obtain ⟨i0, hi, hz0, hz1, hz2⟩ := info_parts info44
  have hmx : 50000 ≤ maxLen := by decide
  obtain ⟨w0, hw0⟩ : ∃ w0, w.alloc (.cells #[.int .i64 d.e, .int .i64 d.a, .int .i64 d.k, .int .i64 d.m, .string d.s, .int .i64 d.t, .bool d.add, .int .i64 d.fr, .int .i64 d.til] 76) = w0 := ⟨_, rfl⟩
  have HD0 : Hid (DatAt w0 w.heap.size d) := by rw [← hw0]; exact datAt_new w d
  have HB0 : Hid (Below w.heap.size w w0) := by rw [← hw0]; exact (Below.refl _ _).alloc (Nat.le_refl _) _
  have hz : w0.heap.size = w.heap.size + 1 := by rw [← hw0]; simp
  have HW0 := Lib.hid hw0
  clear hw0
  go_enter Try.func113, Try.ntmps113
  go_upto_region 1 with (fail)
  rw [HW0.out]
  go_wp2_with fail
  refine (shape_4 _).mono ?_
  rintro e w1 ⟨rfl, rfl⟩
  go_wp2
  go_loopg [6, 7] 3 (fun g x y wr => ∃ (j : Nat) (acc : List PartP), y = .int .i64 j ∧ j + g = 3 ∧ acc.length = j ∧ Hid (acc = (partsD 4 d).take j) ∧ Hid (OwnP wr (w.heap.size + 1) x acc) ∧ Hid (Below (w.heap.size + 1) w0 wr) ∧ w.heap.size + 1 ≤ wr.heap.size)
  case atStart => exact ⟨0, [], rfl, by omega, rfl, rfl, World.ownsRow_nil _ _ _ _, Below.refl _ _, by omega⟩
  case round =>
    obtain ⟨j, acc, rfl, hg, hal, HA, HO, HB, hsz⟩ := hrel
    have hx := HD0.out.next HB.out (Nat.lt_succ_self _)
    rcases (by omega : j = 0 ∨ j = 1 ∨ j = 2 ∨ j = 3) with rfl | rfl | rfl | rfl
    · have c2 := hx.c2
      have c3 := hx.c3
      have c4 := hx.c4
      obtain rfl : gk = 3 := by omega
      clear hx
      go_wp2_with (at_builtin; refine wpList_append_own _ rfl _ _ 152 rfl (w.heap.size + 1) 171 i0 (.agg #[.bool false, .int .i64 0, .int .i64 0, .int .i64 0, .string ⟨#[]⟩]) 5 48 Try.underlying152 hi hz0 hz1 hz2 rfl (by decide) _ acc.length _ rfl (HO.out.alloc _) ⟨wr.heap.size, 0, none⟩ 1 1 (cellsP (valP d)) rfl rfl (fun j u h => cell_lit _ _ _ j u h) (cellsP_one (valP d)) (by omega) (by omega) (by simp; omega) ?_; intro v' w4 hown' hgrow _)
      have hB4 := (HB.out.alloc hsz _).trans (below_ownP (HO.out.alloc _) hgrow (by simp; omega))
      go_roundg 2
      case measure => omega
      case rel => exact ⟨1, acc ++ [valP d], rfl, by omega, by rw [List.length_append, hal]; rfl, (by show _ = _; rw [HA.out]; rfl), ownP_snoc hown', hB4, by have := hB4.size; omega⟩
    · have c1 := hx.c1
      obtain rfl : gk = 2 := by omega
      clear hx
      go_wp2_with (at_builtin; refine wpList_append_own _ rfl _ _ 152 rfl (w.heap.size + 1) 171 i0 (.agg #[.bool false, .int .i64 0, .int .i64 0, .int .i64 0, .string ⟨#[]⟩]) 5 48 Try.underlying152 hi hz0 hz1 hz2 rfl (by decide) _ acc.length _ rfl (HO.out.alloc _) ⟨wr.heap.size, 0, none⟩ 1 1 (cellsP (numP d.a)) rfl rfl (fun j u h => cell_lit _ _ _ j u h) (cellsP_one (numP d.a)) (by omega) (by omega) (by simp; omega) ?_; intro v' w4 hown' hgrow _)
      have hB4 := (HB.out.alloc hsz _).trans (below_ownP (HO.out.alloc _) hgrow (by simp; omega))
      go_roundg 1
      case measure => omega
      case rel => exact ⟨2, acc ++ [numP d.a], rfl, by omega, by rw [List.length_append, hal]; rfl, (by show _ = _; rw [HA.out]; rfl), ownP_snoc hown', hB4, by have := hB4.size; omega⟩
    · have c0 := hx.c0
      obtain rfl : gk = 1 := by omega
      clear hx
      go_wp2_with (at_builtin; refine wpList_append_own _ rfl _ _ 152 rfl (w.heap.size + 1) 171 i0 (.agg #[.bool false, .int .i64 0, .int .i64 0, .int .i64 0, .string ⟨#[]⟩]) 5 48 Try.underlying152 hi hz0 hz1 hz2 rfl (by decide) _ acc.length _ rfl (HO.out.alloc _) ⟨wr.heap.size, 0, none⟩ 1 1 (cellsP (numP d.e)) rfl rfl (fun j u h => cell_lit _ _ _ j u h) (cellsP_one (numP d.e)) (by omega) (by omega) (by simp; omega) ?_; intro v' w4 hown' hgrow _)
      have hB4 := (HB.out.alloc hsz _).trans (below_ownP (HO.out.alloc _) hgrow (by simp; omega))
      go_roundg 0
      case measure => omega
      case rel => exact ⟨3, acc ++ [numP d.e], rfl, by omega, by rw [List.length_append, hal]; rfl, (by show _ = _; rw [HA.out]; rfl), ownP_snoc hown', hB4, by have := hB4.size; omega⟩
    · have c3 := hx.c5
      have c4 := hx.c6
      have c5 := hx.c7
      have c6 := hx.c8
      obtain rfl : gk = 0 := by omega
      obtain ⟨av, hav⟩ : ∃ av, d.add = av := ⟨_, rfl⟩
      rw [hav] at c4
      have HAV := Lib.hid hav
      clear hx hav
      cases av
      · go_wp2_with (at_builtin; refine wpList_append_own _ rfl _ _ 152 rfl (w.heap.size + 1) 171 i0 (.agg #[.bool false, .int .i64 0, .int .i64 0, .int .i64 0, .string ⟨#[]⟩]) 5 48 Try.underlying152 hi hz0 hz1 hz2 rfl (by decide) _ acc.length _ rfl (HO.out.alloc _) ⟨wr.heap.size, 0, none⟩ 4 4 ([numP d.t, numP 1, numP d.fr, numP d.til].flatMap cellsP) rfl rfl (fun j u h => cell_lit _ _ _ j u h) (fun u hu => by obtain ⟨p, _, hp⟩ := List.mem_flatMap.1 hu; exact cellsP_one p u hp) (by omega) (by omega) (by simp; omega) ?_; intro v' w4 hown' hgrow _)
        have HB4 := Lib.hid ((HB.out.alloc hsz _).trans (below_ownP (HO.out.alloc _) hgrow (by simp; omega)))
        have HO4 : Hid (OwnP w4 (w.heap.size + 1) v' (partsD 4 d)) := by
          have h9 : acc ++ [numP d.t, numP 1, numP d.fr, numP d.til] = partsD 4 d := by
            rw [HA.out]
            have h8 : cutN d.add = 1 := by rw [HAV.out]; rfl
            show [valP d, numP d.a, numP d.e] ++ [numP d.t, numP 1, numP d.fr, numP d.til] = [valP d, numP d.a, numP d.e, numP d.t, numP (cutN d.add), numP d.fr, numP d.til]
            rw [h8]; rfl
          show OwnP _ _ _ _
          rw [← h9]
          exact ownP_app hown' rfl
        clear hown' hgrow
        go_ret
        exact ⟨_, rfl, HO4.out.low (by omega), HB0.out.trans (HB4.out.mono (by omega))⟩
      · go_wp2_with (at_builtin; refine wpList_append_own _ rfl _ _ 152 rfl (w.heap.size + 1) 171 i0 (.agg #[.bool false, .int .i64 0, .int .i64 0, .int .i64 0, .string ⟨#[]⟩]) 5 48 Try.underlying152 hi hz0 hz1 hz2 rfl (by decide) _ acc.length _ rfl (HO.out.alloc _) ⟨wr.heap.size, 0, none⟩ 4 4 ([numP d.t, numP 0, numP d.fr, numP d.til].flatMap cellsP) rfl rfl (fun j u h => cell_lit _ _ _ j u h) (fun u hu => by obtain ⟨p, _, hp⟩ := List.mem_flatMap.1 hu; exact cellsP_one p u hp) (by omega) (by omega) (by simp; omega) ?_; intro v' w4 hown' hgrow _)
        have HB4 := Lib.hid ((HB.out.alloc hsz _).trans (below_ownP (HO.out.alloc _) hgrow (by simp; omega)))
        have HO4 : Hid (OwnP w4 (w.heap.size + 1) v' (partsD 4 d)) := by
          have h9 : acc ++ [numP d.t, numP 0, numP d.fr, numP d.til] = partsD 4 d := by
            rw [HA.out]
            have h8 : cutN d.add = 0 := by rw [HAV.out]; rfl
            show [valP d, numP d.a, numP d.e] ++ [numP d.t, numP 0, numP d.fr, numP d.til] = [valP d, numP d.a, numP d.e, numP d.t, numP (cutN d.add), numP d.fr, numP d.til]
            rw [h8]; rfl
          show OwnP _ _ _ _
          rw [← h9]
          exact ownP_app hown' rfl
        clear hown' hgrow
        go_ret
        exact ⟨_, rfl, HO4.out.low (by omega), HB0.out.trans (HB4.out.mono (by omega))⟩
/-- Parts, in an order. -/
theorem refParts_any (o : Int) (d : Dat) (w : World) (ho : isO o = true) : Calls Try.prog 113 #[.int .i64 o, .agg #[.int .i64 d.e, .int .i64 d.a, .int .i64 d.k, .int .i64 d.m, .string d.s, .int .i64 d.t, .bool d.add, .int .i64 d.fr, .int .i64 d.til]] w fun e w' => ∃ v, e = .returned v ∧ OwnP w' w.heap.size v (partsD o d) ∧ Below w.heap.size w w' := by
  rcases isO_cases ho with rfl | rfl | rfl | rfl
  · exact refParts_1 d w
  · exact refParts_2 d w
  · exact refParts_3 d w
  · exact refParts_4 d w
end Go.Proofs.Ytdhnajhfkmmjnaa
