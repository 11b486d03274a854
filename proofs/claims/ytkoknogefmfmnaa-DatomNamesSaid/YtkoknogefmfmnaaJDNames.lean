/-
  THE LAW DatomNames.
-/
import Derived.Test.YtkoknogefmfmnaaJDSorted
import Derived.Test.YtkoknogefmfmnaaJDAlive
import Derived.Test.YtkoknogefmfmnaaJDPreW
import Derived.Test.YtkoknogefmfmnaaJDRefR3
namespace Go.Proofs.Ytkoknogefmfmnaa
open Go.RowKit Go.Shelf

/-- the datom of the law -/
def nmD : Dat := ⟨5, 10, 1, 7, ⟨#[]⟩, 1, true, -9223372036854775808, 9223372036854775807⟩
def nm0 : Dat := ⟨5, 10, 1, 7, ⟨#[]⟩, 0, true, -9223372036854775808, 9223372036854775807⟩
theorem nm_ok : DatOk nmD := ⟨by unfold i64B nmD; decide, by unfold i64B nmD; decide, by unfold i64B nmD; decide, by unfold i64B nmD; decide, by unfold i64B nmD; decide, by unfold i64B nmD; decide, by unfold i64B nmD; decide⟩
theorem few_lit (w : World) : Calls Try.prog 17 #[] w fun e w' => e = .returned (.agg #[.int .i64 5, .int .i64 10, .int .i64 5, .int .i64 7, .string ⟨#[]⟩, .int .i64 1, .bool true, .int .i64 (-9223372036854775808), .int .i64 9223372036854775807]) ∧ Below w.heap.size w w' := few_any w
theorem key4_any (w : World) : Calls Try.prog 18 #[.int .i64 4, .agg #[.int .i64 5, .int .i64 10, .int .i64 1, .int .i64 7, .string ⟨#[]⟩, .int .i64 1, .bool true, .int .i64 (-9223372036854775808), .int .i64 9223372036854775807]] w fun e w' => e = .returned (.tuple #[.slice none 0 0, .int .i64 40]) ∧ Below w.heap.size w w' :=
  (keyD_any 4 nmD w (by decide) nm_ok).mono fun e w' h => by
    obtain ⟨⟨h1, _⟩ | ⟨_, _, h2⟩ | ⟨h1, _⟩, hb⟩ := h
    · exact absurd h1 (by decide)
    · exact ⟨h2, hb⟩
    · exact absurd h1 (by decide +kernel)
theorem key5_any (w : World) : Calls Try.prog 18 #[.int .i64 5, .agg #[.int .i64 5, .int .i64 10, .int .i64 1, .int .i64 7, .string ⟨#[]⟩, .int .i64 1, .bool true, .int .i64 (-9223372036854775808), .int .i64 9223372036854775807]] w fun e w' => e = .returned (.tuple #[.slice none 0 0, .int .i64 2]) ∧ Below w.heap.size w w' :=
  (keyD_any 5 nmD w (by decide) nm_ok).mono fun e w' h => by
    obtain ⟨⟨_, h2⟩ | ⟨h1, _, _⟩ | ⟨h1, _⟩, hb⟩ := h
    · exact ⟨h2, hb⟩
    · exact absurd h1 (by decide)
    · exact absurd h1 (by decide +kernel)
theorem slP1_lit {W : World} {t : TypeId} (p : PartP) : SlP (W.alloc (.cells #[.bool p.v, .int .i64 p.n, .int .i64 p.k, .int .i64 p.m, .string p.s] t)) (W.heap.size + 1) (some ⟨W.heap.size, 0, none⟩) [p] := fun _ => by
  refine ⟨W.heap.size, 0, rfl, Nat.lt_succ_self _, fun j x hx => ?_⟩
  match j, hx with
  | 0, hx =>
    simp at hx
    subst hx
    exact ⟨by simp, by simp, by simp, by simp, by simp⟩
theorem slP2_lit {W : World} {t : TypeId} (p q : PartP) : SlP (W.alloc (.cells #[.bool p.v, .int .i64 p.n, .int .i64 p.k, .int .i64 p.m, .string p.s, .bool q.v, .int .i64 q.n, .int .i64 q.k, .int .i64 q.m, .string q.s] t)) (W.heap.size + 1) (some ⟨W.heap.size, 0, none⟩) [p, q] := fun _ => by
  refine ⟨W.heap.size, 0, rfl, Nat.lt_succ_self _, fun j x hx => ?_⟩
  match j, hx with
  | 0, hx =>
    simp at hx
    subst hx
    exact ⟨by simp, by simp, by simp, by simp, by simp⟩
  | 1, hx =>
    simp at hx
    subst hx
    exact ⟨by simp, by simp, by simp, by simp, by simp⟩
theorem pre1_any (c : Nat) (W : World) : Calls Try.prog 19 #[.int .i64 1, .slice (some ⟨W.heap.size, 0, none⟩) 1 c] (W.alloc (.cells #[.bool true, .int .i64 0, .int .i64 1, .int .i64 7, .string ⟨#[]⟩] 45)) fun e w' => e = .returned (.tuple #[.slice none 0 0, .int .i64 2]) ∧ Below W.heap.size (W.alloc (.cells #[.bool true, .int .i64 0, .int .i64 1, .int .i64 7, .string ⟨#[]⟩] 45)) w' := by
  have hs := slP1_lit (W := W) (t := 45) ⟨true, 0, 1, 7, ⟨#[]⟩⟩
  refine (prefix_any 1 (some ⟨W.heap.size, 0, none⟩) c [⟨true, 0, 1, 7, ⟨#[]⟩⟩] _ (by rw [World.size_alloc]; exact hs) (by intro p hp; simp at hp; rw [hp]; decide) (by decide) (by intro p hp; simp at hp; rw [hp]; exact ⟨by decide, by decide, by decide⟩)).mono fun e w' h => ?_
  obtain ⟨⟨h1, _⟩ | ⟨n, h1, _, h2⟩, hb⟩ := h
  · exact absurd h1 (by decide +kernel)
  · have e2 : preE 1 [⟨true, 0, 1, 7, ⟨#[]⟩⟩] = 2 := by decide +kernel
    rw [e2] at h1
    subst h1
    exact ⟨h2, hb.mono (by simp)⟩
theorem pre4_any (c : Nat) (W : World) : Calls Try.prog 19 #[.int .i64 4, .slice (some ⟨W.heap.size, 0, none⟩) 1 c] (W.alloc (.cells #[.bool true, .int .i64 0, .int .i64 0, .int .i64 0, .string ⟨#[]⟩] 45)) fun e w' => e = .returned (.tuple #[.slice none 0 0, .int .i64 10]) ∧ Below W.heap.size (W.alloc (.cells #[.bool true, .int .i64 0, .int .i64 0, .int .i64 0, .string ⟨#[]⟩] 45)) w' := by
  have hs := slP1_lit (W := W) (t := 45) ⟨true, 0, 0, 0, ⟨#[]⟩⟩
  refine (prefix_any 4 (some ⟨W.heap.size, 0, none⟩) c [⟨true, 0, 0, 0, ⟨#[]⟩⟩] _ (by rw [World.size_alloc]; exact hs) (by intro p hp; simp at hp; rw [hp]; decide) (by decide) (by intro p hp; simp at hp; rw [hp]; exact ⟨by decide, by decide, by decide⟩)).mono fun e w' h => ?_
  obtain ⟨⟨h1, _⟩ | ⟨n, h1, _, h2⟩, hb⟩ := h
  · exact absurd h1 (by decide +kernel)
  · have e2 : preE 4 [⟨true, 0, 0, 0, ⟨#[]⟩⟩] = 10 := by decide +kernel
    rw [e2] at h1
    subst h1
    exact ⟨h2, hb.mono (by simp)⟩
theorem read1_any (W : World) : Calls Try.prog 20 #[.int .i64 1, .slice none 0 0] W fun e w' => e = .returned (.tuple #[.agg #[.int .i64 0, .int .i64 0, .int .i64 0, .int .i64 0, .string ⟨#[]⟩, .int .i64 0, .bool false, .int .i64 0, .int .i64 0], .int .i64 40]) ∧ Below W.heap.size W w' :=
  (dRead_any 1 none 0 [] W (fun h => absurd rfl h) (by decide) (Nat.le_refl _) (Nat.zero_le _)).mono fun e w' h => by
    obtain ⟨⟨h1, _⟩ | ⟨_, _, h2⟩ | ⟨_, d, h1, _⟩, hb⟩ := h
    · exact absurd h1 (by decide)
    · exact ⟨h2, hb⟩
    · exact absurd h1 (by rw [show readD 1 [] = none from by decide +kernel]; intro h; cases h)
theorem slD1_lit {W : World} {t : TypeId} (d : Dat) : SlD (W.alloc (.cells #[.int .i64 d.e, .int .i64 d.a, .int .i64 d.k, .int .i64 d.m, .string d.s, .int .i64 d.t, .bool d.add, .int .i64 d.fr, .int .i64 d.til] t)) (W.heap.size + 1) (some ⟨W.heap.size, 0, none⟩) [d] := fun _ => by
  refine ⟨W.heap.size, 0, rfl, Nat.lt_succ_self _, fun j x hx => ?_⟩
  match j, hx with
  | 0, hx =>
    simp at hx
    subst hx
    intro i hi
    have e : 0 + 0 * 9 + i = i := by omega
    rw [e, World.cell?_alloc_new]
    simp [cellsD]
theorem sort0_any (c : Nat) (W : World) : Calls Try.prog 12 #[.int .i64 0, .slice (some ⟨W.heap.size, 0, none⟩) 1 c] (W.alloc (.cells #[.int .i64 5, .int .i64 10, .int .i64 1, .int .i64 7, .string ⟨#[]⟩, .int .i64 1, .bool true, .int .i64 (-9223372036854775808), .int .i64 9223372036854775807] 36)) fun e w' => (∃ A' c', e = .returned (.slice A' 0 c')) ∧ Below W.heap.size (W.alloc (.cells #[.int .i64 5, .int .i64 10, .int .i64 1, .int .i64 7, .string ⟨#[]⟩, .int .i64 1, .bool true, .int .i64 (-9223372036854775808), .int .i64 9223372036854775807] 36)) w' := by
  have hs := slD1_lit (W := W) (t := 36) nmD
  refine (sortedD_any 0 (some ⟨W.heap.size, 0, none⟩) c [nmD] _ (by rw [World.size_alloc]; exact hs) (by decide)).mono fun e w' ⟨A', c', h1, _, h3⟩ => ?_
  have e2 : sortsD 0 [nmD] = [] := by unfold sortsD; rw [if_neg (by decide)]
  rw [e2] at h1
  exact ⟨⟨A', c', h1⟩, h3.mono (by simp)⟩

theorem DatAt.set5 {W : World} {b : Nat} (h : DatAt W b nmD) : DatAt (W.setCell ⟨b, 5, none⟩ (.int .i64 0)) b nm0 := (heap_setCell_same _ _ _ _ _ _ h).trans (by simp [nm0, nmD])
theorem chk0_any (w : World) : Calls Try.prog 21 #[.agg #[.int .i64 5, .int .i64 10, .int .i64 1, .int .i64 7, .string ⟨#[]⟩, .int .i64 0, .bool true, .int .i64 (-9223372036854775808), .int .i64 9223372036854775807]] w fun e w' => e = .returned (.int .i64 40) ∧ Below w.heap.size w w' :=
  (dCheck_any nm0 w (by decide)).mono fun e w' ⟨h1, h2⟩ => ⟨by rw [h1, if_neg (by decide +kernel)], h2⟩
theorem beg2_any (g c : Nat) (W : World) (hs : SlP W W.heap.size (some ⟨g, 0, none⟩) [⟨false, 10, 0, 0, ⟨#[]⟩⟩, ⟨false, 5, 0, 0, ⟨#[]⟩⟩]) : Calls Try.prog 22 #[.int .i64 2, .slice (some ⟨g, 0, none⟩) 2 c, (.agg #[.int .i64 5, .int .i64 10, .int .i64 5, .int .i64 7, .string ⟨#[]⟩, .int .i64 1, .bool true, .int .i64 (-9223372036854775808), .int .i64 9223372036854775807])] W fun e w' => e = .returned (.bool true) ∧ Below W.heap.size W w' :=
  (begins_any 2 _ c _ fewD W hs (by intro p hp; simp at hp; rcases hp with h | h <;> rw [h] <;> decide) (by decide)).mono fun e w' ⟨h1, h2⟩ => ⟨by rw [h1, show begB 2 [⟨false, 10, 0, 0, ⟨#[]⟩⟩, ⟨false, 5, 0, 0, ⟨#[]⟩⟩] fewD = true from by decide +kernel], h2⟩
theorem beg1_any (g c : Nat) (W : World) (hs : SlP W W.heap.size (some ⟨g, 0, none⟩) [⟨false, 10, 0, 0, ⟨#[]⟩⟩]) : Calls Try.prog 22 #[.int .i64 1, .slice (some ⟨g, 0, none⟩) 1 c, (.agg #[.int .i64 5, .int .i64 10, .int .i64 5, .int .i64 7, .string ⟨#[]⟩, .int .i64 1, .bool true, .int .i64 (-9223372036854775808), .int .i64 9223372036854775807])] W fun e w' => e = .returned (.bool false) ∧ Below W.heap.size W w' :=
  (begins_any 1 _ c _ fewD W hs (by intro p hp; simp at hp; rw [hp]; decide) (by decide)).mono fun e w' ⟨h1, h2⟩ => ⟨by rw [h1, show begB 1 [⟨false, 10, 0, 0, ⟨#[]⟩⟩] fewD = false from by decide +kernel], h2⟩
theorem beg0_any (W : World) : Calls Try.prog 22 #[.int .i64 1, .slice none 0 0, (.agg #[.int .i64 5, .int .i64 10, .int .i64 5, .int .i64 7, .string ⟨#[]⟩, .int .i64 1, .bool true, .int .i64 (-9223372036854775808), .int .i64 9223372036854775807])] W fun e w' => e = .returned (.bool true) ∧ Below W.heap.size W w' :=
  (begins_any 1 none 0 [] fewD W (fun h => absurd rfl h) (by intro p hp; cases hp) (by decide)).mono fun e w' ⟨h1, h2⟩ => ⟨by rw [h1, show begB 1 [] fewD = true from by decide +kernel], h2⟩
theorem slD3_lit {W : World} {t : TypeId} : SlD (W.alloc (.cells #[.int .i64 5, .int .i64 10, .int .i64 1, .int .i64 7, .string ⟨#[]⟩, .int .i64 1, .bool true, .int .i64 (-9223372036854775808), .int .i64 9223372036854775807, .int .i64 5, .int .i64 10, .int .i64 5, .int .i64 7, .string ⟨#[]⟩, .int .i64 1, .bool true, .int .i64 (-9223372036854775808), .int .i64 9223372036854775807, .int .i64 5, .int .i64 10, .int .i64 5, .int .i64 7, .string ⟨#[]⟩, .int .i64 1, .bool true, .int .i64 (-9223372036854775808), .int .i64 9223372036854775807] t)) (W.heap.size + 1) (some ⟨W.heap.size, 0, none⟩) [nmD, fewD, fewD] := fun _ => by
  refine ⟨W.heap.size, 0, rfl, Nat.lt_succ_self _, fun j x hx => ?_⟩
  match j, hx with
  | 0, hx =>
    simp at hx
    subst hx
    intro i hi
    rw [World.cell?_alloc_new]
    rcases (by omega : i = 0 ∨ i = 1 ∨ i = 2 ∨ i = 3 ∨ i = 4 ∨ i = 5 ∨ i = 6 ∨ i = 7 ∨ i = 8) with rfl | rfl | rfl | rfl | rfl | rfl | rfl | rfl | rfl <;> rfl
  | 1, hx =>
    simp at hx
    subst hx
    intro i hi
    rw [World.cell?_alloc_new]
    rcases (by omega : i = 0 ∨ i = 1 ∨ i = 2 ∨ i = 3 ∨ i = 4 ∨ i = 5 ∨ i = 6 ∨ i = 7 ∨ i = 8) with rfl | rfl | rfl | rfl | rfl | rfl | rfl | rfl | rfl <;> rfl
  | 2, hx =>
    simp at hx
    subst hx
    intro i hi
    rw [World.cell?_alloc_new]
    rcases (by omega : i = 0 ∨ i = 1 ∨ i = 2 ∨ i = 3 ∨ i = 4 ∨ i = 5 ∨ i = 6 ∨ i = 7 ∨ i = 8) with rfl | rfl | rfl | rfl | rfl | rfl | rfl | rfl | rfl <;> rfl
theorem sort4_any (c : Nat) (W : World) : Calls Try.prog 12 #[.int .i64 4, .slice (some ⟨W.heap.size, 0, none⟩) 3 c] (W.alloc (.cells #[.int .i64 5, .int .i64 10, .int .i64 1, .int .i64 7, .string ⟨#[]⟩, .int .i64 1, .bool true, .int .i64 (-9223372036854775808), .int .i64 9223372036854775807, .int .i64 5, .int .i64 10, .int .i64 5, .int .i64 7, .string ⟨#[]⟩, .int .i64 1, .bool true, .int .i64 (-9223372036854775808), .int .i64 9223372036854775807, .int .i64 5, .int .i64 10, .int .i64 5, .int .i64 7, .string ⟨#[]⟩, .int .i64 1, .bool true, .int .i64 (-9223372036854775808), .int .i64 9223372036854775807] 36)) fun e w' => (∃ A' c', e = .returned (.slice A' 1 c') ∧ SlD w' w'.heap.size A' [fewD]) ∧ Below W.heap.size (W.alloc (.cells #[.int .i64 5, .int .i64 10, .int .i64 1, .int .i64 7, .string ⟨#[]⟩, .int .i64 1, .bool true, .int .i64 (-9223372036854775808), .int .i64 9223372036854775807, .int .i64 5, .int .i64 10, .int .i64 5, .int .i64 7, .string ⟨#[]⟩, .int .i64 1, .bool true, .int .i64 (-9223372036854775808), .int .i64 9223372036854775807, .int .i64 5, .int .i64 10, .int .i64 5, .int .i64 7, .string ⟨#[]⟩, .int .i64 1, .bool true, .int .i64 (-9223372036854775808), .int .i64 9223372036854775807] 36)) w' := by
  have hs := slD3_lit (W := W) (t := 36)
  refine (sortedD_any 4 (some ⟨W.heap.size, 0, none⟩) c [nmD, fewD, fewD] _ (by rw [World.size_alloc]; exact hs) (by decide)).mono fun e w' ⟨A', c', h1, h2, h3⟩ => ?_
  have e2 : sortsD 4 [nmD, fewD, fewD] = [fewD] := by decide +kernel
  rw [e2] at h1 h2
  exact ⟨⟨A', c', h1, h2⟩, h3.mono (by simp)⟩
/-- what the regions keep -/
def SNm (w : World) (b : Nat) (d : Dat) (W : World) : Prop := DatAt W b d ∧ Below w.heap.size w W
theorem SNm.next {w W W' : World} {b : Nat} {d : Dat} (h : SNm w b d W) (hb : Below W.heap.size W W') : SNm w b d W' := ⟨h.1.next hb h.1.lt, h.2.trans (hb.mono h.2.size)⟩
theorem SNm.drew {w W : World} {b : Nat} {d : Dat} (h : SNm w b d W) : SNm w b d W.drew := ⟨h.1, h.2.drew⟩
def SNn (w : World) (b b9 o9 : Nat) (W : World) : Prop := SNm w b nm0 W ∧ (DtAt W b9 o9 fewD ∧ b9 < W.heap.size)
theorem SNn.next {w W W' : World} {b b9 o9 : Nat} (h : SNn w b b9 o9 W) (hb : Below W.heap.size W W') : SNn w b b9 o9 W' := ⟨h.1.next hb, h.2.1.next hb h.2.2, Nat.lt_of_lt_of_le h.2.2 hb.size⟩
theorem SNn.drew {w W : World} {b b9 o9 : Nat} (h : SNn w b b9 o9 W) : SNn w b b9 o9 W.drew := ⟨h.1.drew, h.2.1.drew, h.2.2⟩
theorem callV2 {P : Program} {ops : Array Oper} {Q : Exit → Act → World → Prop} {md : Region.Mode} {S : World → Prop} {fuel : Nat} {listed : Array Bool} {a : Act} {w : World} (i j : Nat) {oi oj : Oper} (hi : ops[i]? = some oi) (hj : ops[j]? = some oj) (hr : Region.ready md ops listed = [i, j]) (hwi : Region.wanted oi (yielded ops a.tmps) = true) (hwj : Region.wanted oj (yielded ops a.tmps) = true)
    (h1 : ∀ K' : Act → World → Prop, Shut (∀ a w, S w → (S w → wpAnyH P md ops Q S fuel (listed.setIfInBounds i true) a w) → K' a w) → Oper.wp P oi a w K' Q)
    (h2 : ∀ K' : Act → World → Prop, Shut (∀ a w, S w → (S w → wpAnyH P md ops Q S fuel (listed.setIfInBounds j true) a w) → K' a w) → Oper.wp P oj a w K' Q) : wpAnyH P md ops Q S (fuel + 1) listed a w :=
  wpAnyH_ready hr (by simp) (AllReadyH.cons hi (fun K' hK => by rw [if_pos hwi]; exact h1 K' hK) (AllReadyH.cons hj (fun K' hK => by rw [if_pos hwj]; exact h2 K' hK) AllReadyH.nil))

set_option maxRecDepth 100000 in
set_option maxHeartbeats 4000000 in
theorem dNames_any (w : World) : Calls Try.prog 6 #[] w fun e w' => e = .returned (.bool true) ∧ Below w.heap.size w w' := by
  go_enter Try.func6, Try.ntmps6
  go_wp2_with fail
  refine (few_lit w).mono ?_
  rintro e w1 ⟨rfl, hb1⟩
  have HB1 := Lib.hid hb1
  clear hb1
  have HD1 : Hid (DatAt (w1.alloc (.cells #[.int .i64 5, .int .i64 10, .int .i64 1, .int .i64 7, .string ⟨#[]⟩, .int .i64 1, .bool true, .int .i64 (-9223372036854775808), .int .i64 9223372036854775807] 36)) w1.heap.size nmD) := datAt_new w1 nmD
  have HBa : Hid (Below w.heap.size w (w1.alloc (.cells #[.int .i64 5, .int .i64 10, .int .i64 1, .int .i64 7, .string ⟨#[]⟩, .int .i64 1, .bool true, .int .i64 (-9223372036854775808), .int .i64 9223372036854775807] 36))) := HB1.out.alloc HB1.out.size _
  go_wp2_with fail
  refine (key4_any _).mono ?_
  rintro e w2 ⟨rfl, hb⟩
  have HD2 := Lib.hid (HD1.out.next hb HD1.out.lt)
  have HB2 := Lib.hid (HBa.out.trans (hb.mono HBa.out.size))
  clear hb
  have c0 : w2.cell? ⟨w1.heap.size, 0, none⟩ = some (.int .i64 5) := HD2.out.c0
  have c1 : w2.cell? ⟨w1.heap.size, 1, none⟩ = some (.int .i64 10) := HD2.out.c1
  have c2 : w2.cell? ⟨w1.heap.size, 2, none⟩ = some (.int .i64 1) := HD2.out.c2
  have c3 : w2.cell? ⟨w1.heap.size, 3, none⟩ = some (.int .i64 7) := HD2.out.c3
  have c4 : w2.cell? ⟨w1.heap.size, 4, none⟩ = some (.string ⟨#[]⟩) := HD2.out.c4
  have c5 : w2.cell? ⟨w1.heap.size, 5, none⟩ = some (.int .i64 1) := HD2.out.c5
  have c6 : w2.cell? ⟨w1.heap.size, 6, none⟩ = some (.bool true) := HD2.out.c6
  have c7 : w2.cell? ⟨w1.heap.size, 7, none⟩ = some (.int .i64 (-9223372036854775808)) := HD2.out.c7
  have c8 : w2.cell? ⟨w1.heap.size, 8, none⟩ = some (.int .i64 9223372036854775807) := HD2.out.c8
  go_wp2_with fail
  refine (key5_any _).mono ?_
  rintro e w3 ⟨rfl, hb⟩
  have HD3 := Lib.hid (HD2.out.next hb HD2.out.lt)
  have HB3 := Lib.hid (HB2.out.trans (hb.mono HB2.out.size))
  clear hb
  clear c0 c1 c2 c3 c4 c5 c6 c7 c8
  have c0 : w3.cell? ⟨w1.heap.size, 0, none⟩ = some (.int .i64 5) := HD3.out.c0
  have c1 : w3.cell? ⟨w1.heap.size, 1, none⟩ = some (.int .i64 10) := HD3.out.c1
  have c2 : w3.cell? ⟨w1.heap.size, 2, none⟩ = some (.int .i64 1) := HD3.out.c2
  have c3 : w3.cell? ⟨w1.heap.size, 3, none⟩ = some (.int .i64 7) := HD3.out.c3
  have c4 : w3.cell? ⟨w1.heap.size, 4, none⟩ = some (.string ⟨#[]⟩) := HD3.out.c4
  have c5 : w3.cell? ⟨w1.heap.size, 5, none⟩ = some (.int .i64 1) := HD3.out.c5
  have c6 : w3.cell? ⟨w1.heap.size, 6, none⟩ = some (.bool true) := HD3.out.c6
  have c7 : w3.cell? ⟨w1.heap.size, 7, none⟩ = some (.int .i64 (-9223372036854775808)) := HD3.out.c7
  have c8 : w3.cell? ⟨w1.heap.size, 8, none⟩ = some (.int .i64 9223372036854775807) := HD3.out.c8
  go_wp2_with fail
  refine (pre1_any _ w3).mono ?_
  rintro e w4 ⟨rfl, hb⟩
  have hb' := ((Below.refl w3.heap.size w3).alloc (Nat.le_refl _) _).trans hb
  have HD4 := Lib.hid (HD3.out.next hb' HD3.out.lt)
  have HB4 := Lib.hid (HB3.out.trans (hb'.mono HB3.out.size))
  clear hb hb'
  clear c0 c1 c2 c3 c4 c5 c6 c7 c8
  go_wp2_with fail
  refine (pre4_any _ w4).mono ?_
  rintro e w5 ⟨rfl, hb⟩
  have hb' := ((Below.refl w4.heap.size w4).alloc (Nat.le_refl _) _).trans hb
  have HD5 := Lib.hid (HD4.out.next hb' HD4.out.lt)
  have HB5 := Lib.hid (HB4.out.trans (hb'.mono HB4.out.size))
  clear hb hb'
  go_wp2_with fail
  refine (read1_any w5).mono ?_
  rintro e w6 ⟨rfl, hb⟩
  have HD6 := Lib.hid (HD5.out.next hb HD5.out.lt)
  have HB6 := Lib.hid (HB5.out.trans (hb.mono HB5.out.size))
  clear hb
  have HD7 : Hid (DatAt (w6.alloc (.cells #[.int .i64 0, .int .i64 0, .int .i64 0, .int .i64 0, .string ⟨#[]⟩, .int .i64 0, .bool false, .int .i64 0, .int .i64 0] 36)) w1.heap.size nmD) := HD6.out.alloc _
  have HB7 : Hid (Below w.heap.size w (w6.alloc (.cells #[.int .i64 0, .int .i64 0, .int .i64 0, .int .i64 0, .string ⟨#[]⟩, .int .i64 0, .bool false, .int .i64 0, .int .i64 0] 36))) := HB6.out.alloc HB6.out.size _
  have c0 : (w6.alloc (.cells #[.int .i64 0, .int .i64 0, .int .i64 0, .int .i64 0, .string ⟨#[]⟩, .int .i64 0, .bool false, .int .i64 0, .int .i64 0] 36)).cell? ⟨w1.heap.size, 0, none⟩ = some (.int .i64 5) := HD7.out.c0
  have c1 : (w6.alloc (.cells #[.int .i64 0, .int .i64 0, .int .i64 0, .int .i64 0, .string ⟨#[]⟩, .int .i64 0, .bool false, .int .i64 0, .int .i64 0] 36)).cell? ⟨w1.heap.size, 1, none⟩ = some (.int .i64 10) := HD7.out.c1
  have c2 : (w6.alloc (.cells #[.int .i64 0, .int .i64 0, .int .i64 0, .int .i64 0, .string ⟨#[]⟩, .int .i64 0, .bool false, .int .i64 0, .int .i64 0] 36)).cell? ⟨w1.heap.size, 2, none⟩ = some (.int .i64 1) := HD7.out.c2
  have c3 : (w6.alloc (.cells #[.int .i64 0, .int .i64 0, .int .i64 0, .int .i64 0, .string ⟨#[]⟩, .int .i64 0, .bool false, .int .i64 0, .int .i64 0] 36)).cell? ⟨w1.heap.size, 3, none⟩ = some (.int .i64 7) := HD7.out.c3
  have c4 : (w6.alloc (.cells #[.int .i64 0, .int .i64 0, .int .i64 0, .int .i64 0, .string ⟨#[]⟩, .int .i64 0, .bool false, .int .i64 0, .int .i64 0] 36)).cell? ⟨w1.heap.size, 4, none⟩ = some (.string ⟨#[]⟩) := HD7.out.c4
  have c5 : (w6.alloc (.cells #[.int .i64 0, .int .i64 0, .int .i64 0, .int .i64 0, .string ⟨#[]⟩, .int .i64 0, .bool false, .int .i64 0, .int .i64 0] 36)).cell? ⟨w1.heap.size, 5, none⟩ = some (.int .i64 1) := HD7.out.c5
  have c6 : (w6.alloc (.cells #[.int .i64 0, .int .i64 0, .int .i64 0, .int .i64 0, .string ⟨#[]⟩, .int .i64 0, .bool false, .int .i64 0, .int .i64 0] 36)).cell? ⟨w1.heap.size, 6, none⟩ = some (.bool true) := HD7.out.c6
  have c7 : (w6.alloc (.cells #[.int .i64 0, .int .i64 0, .int .i64 0, .int .i64 0, .string ⟨#[]⟩, .int .i64 0, .bool false, .int .i64 0, .int .i64 0] 36)).cell? ⟨w1.heap.size, 7, none⟩ = some (.int .i64 (-9223372036854775808)) := HD7.out.c7
  have c8 : (w6.alloc (.cells #[.int .i64 0, .int .i64 0, .int .i64 0, .int .i64 0, .string ⟨#[]⟩, .int .i64 0, .bool false, .int .i64 0, .int .i64 0] 36)).cell? ⟨w1.heap.size, 8, none⟩ = some (.int .i64 9223372036854775807) := HD7.out.c8
  go_upto_region 8 with (fail)
  obtain ⟨w7, hw7⟩ : ∃ w7, w6.alloc (.cells #[.int .i64 0, .int .i64 0, .int .i64 0, .int .i64 0, .string ⟨#[]⟩, .int .i64 0, .bool false, .int .i64 0, .int .i64 0] 36) = w7 := ⟨_, rfl⟩
  rw [hw7] at HD7 HB7 c0 c1 c2 c3 c4 c5 c6 c7 c8 ⊢
  clear hw7
  go_wp2_with fail
  refine (sort0_any _ w7).mono ?_
  rintro e w8 ⟨⟨A8, n8, rfl⟩, hb⟩
  have hb' := ((Below.refl w7.heap.size w7).alloc (Nat.le_refl _) _).trans hb
  have HD8 := Lib.hid (HD7.out.next hb' HD7.out.lt)
  have HB8 := Lib.hid (HB7.out.trans (hb'.mono HB7.out.size))
  clear hb hb'
  clear c0 c1 c2 c3 c4 c5 c6 c7 c8
  go_wp2_with fail
  obtain ⟨wd, hwd⟩ : ∃ wd, w8.drew = wd := ⟨_, rfl⟩
  have HSD : Hid (SNm w w1.heap.size nmD wd) := by rw [← hwd]; exact SNm.drew ⟨HD8.out, HB8.out⟩
  refine wp_region_held_drew (S := SNm w w1.heap.size nmD) (by kernel_rfl) (by rw [hwd]; exact HSD.out) (fun hHeld => ?_)
  rw [hwd] at hHeld ⊢
  clear hwd
  refine takeV 0 (some 48) ((.agg #[.int .i64 5, .int .i64 10, .int .i64 1, .int .i64 7, .string ⟨#[]⟩, .int .i64 1, .bool true, .int .i64 (-9223372036854775808), .int .i64 9223372036854775807])) rfl rfl (by kernel_rfl) (by kernel_rfl) (by kernel_rfl) (fun _ _ _ h => h) (by rfl) (by (intro _w hSw; have k0 : _w.cell? ⟨w1.heap.size, 0, none⟩ = some (.int .i64 5) := hSw.1.c0; have k1 : _w.cell? ⟨w1.heap.size, 1, none⟩ = some (.int .i64 10) := hSw.1.c1; have k2 : _w.cell? ⟨w1.heap.size, 2, none⟩ = some (.int .i64 1) := hSw.1.c2; have k3 : _w.cell? ⟨w1.heap.size, 3, none⟩ = some (.int .i64 7) := hSw.1.c3; have k4 : _w.cell? ⟨w1.heap.size, 4, none⟩ = some (.string ⟨#[]⟩) := hSw.1.c4; have k5 : _w.cell? ⟨w1.heap.size, 5, none⟩ = some (.int .i64 1) := hSw.1.c5; have k6 : _w.cell? ⟨w1.heap.size, 6, none⟩ = some (.bool true) := hSw.1.c6; have k7 : _w.cell? ⟨w1.heap.size, 7, none⟩ = some (.int .i64 (-9223372036854775808)) := hSw.1.c7; have k8 : _w.cell? ⟨w1.heap.size, 8, none⟩ = some (.int .i64 9223372036854775807) := hSw.1.c8; clear hSw; go_simp)) (by assumption) ?_
  simp only [Act.put, List.setIfInBounds_toArray, List.set_cons_zero, List.set_cons_succ]
  refine callV 1 rfl (by kernel_rfl) (by rfl) (fun K hK => ?_)
  go_simp
  refine (few_lit _).mono ?_
  rintro e w9 ⟨rfl, hb⟩
  refine hK.out _ _ (SNm.next hHeld hb) (fun hHeld2 => ?_)
  clear hK K hHeld hb
  have hHeld := hHeld2
  clear hHeld2
  try simp only [Act.put, List.setIfInBounds_toArray, List.set_cons_zero, List.set_cons_succ]
  refine callV 2 rfl (by kernel_rfl) (by rfl) (fun K hK => ?_)
  go_simp
  refine (few_lit _).mono ?_
  rintro e wa ⟨rfl, hb⟩
  refine hK.out _ _ (SNm.next hHeld hb) (fun hHeld2 => ?_)
  clear hK K hHeld hb
  have hHeld := hHeld2
  clear hHeld2
  try simp only [Act.put, List.setIfInBounds_toArray, List.set_cons_zero, List.set_cons_succ]
  have HHa := Lib.hid hHeld
  refine callV 3 rfl (by kernel_rfl) (by rfl) (fun K hK => ?_)
  go_simp
  refine hK.out _ _ (SNm.next hHeld ((Below.refl _ wa).alloc (Nat.le_refl _) _)) (fun hHeld2 => ?_)
  clear hK K hHeld
  have hHeld := hHeld2
  clear hHeld2
  try simp only [Act.put, List.setIfInBounds_toArray, List.set_cons_zero, List.set_cons_succ]
  refine callV 4 rfl (by kernel_rfl) (by rfl) (fun K hK => ?_)
  go_simp
  refine (sort4_any _ wa).mono ?_
  rintro e wb ⟨⟨A9, n9, rfl, hs9⟩, hb⟩
  refine hK.out _ _ (SNm.next HHa.out (((Below.refl wa.heap.size wa).alloc (Nat.le_refl _) _).trans hb)) (fun hHeld2 => ?_)
  have HS9 := Lib.hid hs9
  clear hK K hHeld hb hs9 HHa
  have hHeld := hHeld2
  clear hHeld2
  try simp only [Act.put, List.setIfInBounds_toArray, List.set_cons_zero, List.set_cons_succ]
  refine takeV 5 (some 13) ((.slice A9 1 n9)) rfl rfl (by kernel_rfl) (by kernel_rfl) (by kernel_rfl) (fun _ _ _ h => h) (by rfl) (by (intro _w _hSw; (try dsimp only at _hSw); go_simp)) (by assumption) ?_
  simp only [Act.put, List.setIfInBounds_toArray, List.set_cons_zero, List.set_cons_succ]
  refine wpAnyH_done (by kernel_rfl) ?_ _
  obtain ⟨b9, o9, rfl, hb9, hq9⟩ := HS9.out (by simp)
  have hd9 := hq9 0 fewD rfl
  rw [Nat.zero_mul, Nat.add_zero] at hd9
  have hne9 : b9 ≠ w1.heap.size := fun e => by
    subst e
    have h8 := hd9.c8
    have h2 := hd9.c2
    have ho : o9 = 0 := by
      have hk := hHeld.1.cell (o9 + 8)
      rw [hk] at h8
      have := (Array.getElem?_eq_some_iff.1 h8).1
      simp at this
      omega
    subst ho
    have hk := hHeld.1.c2
    rw [Nat.zero_add] at h2
    rw [hk] at h2
    simp [nmD, fewD] at h2
  have HH := Lib.hid hHeld
  have HD9 := Lib.hid hd9
  have HNE := Lib.hid hne9
  have HB9 := Lib.hid hb9
  have c5 : wb.cell? ⟨w1.heap.size, 5, none⟩ = some (.int .i64 1) := hHeld.1.c5
  have f5 : wb.frozen? ⟨w1.heap.size, 5, none⟩ = false := hHeld.1.fz 5
  clear hHeld hd9 hne9 hb9 hq9
  go_upto_region 11 with (fail)
  obtain ⟨wc, hwc⟩ : ∃ wc, wb.setCell ⟨w1.heap.size, 5, none⟩ (.int .i64 0) = wc := ⟨_, rfl⟩
  have HSN : Hid (SNn w w1.heap.size b9 o9 wc) := by
    rw [← hwc]
    refine ⟨⟨HH.out.1.set5, HH.out.2.setCell (p := ⟨w1.heap.size, 5, none⟩) HB1.out.size _⟩, fun i hi => ?_, by simpa using HB9.out⟩
    rw [World.cell?_setCell_far _ _ _ _ (fun e => HNE.out e.symm)]
    exact HD9.out i hi
  rw [hwc]
  clear hwc c5 f5 HH
  have hfe : ∀ w, (binOp .eql 36 (.agg #[.int .i64 5, .int .i64 10, .int .i64 5, .int .i64 7, .string ⟨#[]⟩, .int .i64 1, .bool true, .int .i64 (-9223372036854775808), .int .i64 9223372036854775807]) (.agg #[.int .i64 5, .int .i64 10, .int .i64 5, .int .i64 7, .string ⟨#[]⟩, .int .i64 1, .bool true, .int .i64 (-9223372036854775808), .int .i64 9223372036854775807])).run Try.prog w = .ok (.bool true) w := fun w => (eqD_run fewD fewD w).trans (by rw [decide_eq_true rfl])
  obtain ⟨wd, hwd⟩ : ∃ wd, wc.drew = wd := ⟨_, rfl⟩
  have HSD : Hid (SNn w w1.heap.size b9 o9 wd) := by rw [← hwd]; exact SNn.drew HSN.out
  refine wp_region_held_drew (S := SNn w w1.heap.size b9 o9) (by kernel_rfl) (by rw [hwd]; exact HSD.out) (fun hHeld => ?_)
  rw [hwd] at hHeld ⊢
  clear hwd
  refine takeV 0 (some 54) ((.bool true)) rfl rfl (by kernel_rfl) (by kernel_rfl) (by kernel_rfl) (fun _ _ _ h => h) (by rfl) (by (intro _w _hSw; (try dsimp only at _hSw); go_simp)) (by assumption) ?_
  simp only [Act.put, List.setIfInBounds_toArray, List.set_cons_zero, List.set_cons_succ]
  refine callV 1 rfl (by kernel_rfl) (by rfl) (fun K hK => ?_)
  go_simp
  refine (dAlive_any _).mono ?_
  rintro e x1 ⟨rfl, hb⟩
  refine hK.out _ _ (SNn.next hHeld hb) (fun hHeld2 => ?_)
  clear hK K hHeld hb
  have hHeld := hHeld2
  clear hHeld2
  try simp only [Act.put, List.setIfInBounds_toArray, List.set_cons_zero, List.set_cons_succ]
  refine takeV 2 (some 56) ((.bool true)) rfl rfl (by kernel_rfl) (by kernel_rfl) (by kernel_rfl) (fun _ _ _ h => h) (by rfl) (by (intro _w _hSw; (try dsimp only at _hSw); go_simp)) (by assumption) ?_
  simp only [Act.put, List.setIfInBounds_toArray, List.set_cons_zero, List.set_cons_succ]
  refine takeV 3 (some 57) ((.bool true)) rfl rfl (by kernel_rfl) (by kernel_rfl) (by kernel_rfl) (fun _ _ _ h => h) (by rfl) (by (intro _w _hSw; (try dsimp only at _hSw); go_simp)) (by assumption) ?_
  simp only [Act.put, List.setIfInBounds_toArray, List.set_cons_zero, List.set_cons_succ]
  refine takeV 4 (some 58) ((.int .i64 40)) rfl rfl (by kernel_rfl) (by kernel_rfl) (by kernel_rfl) (fun _ _ _ h => h) (by rfl) (by (intro _w _hSw; (try dsimp only at _hSw); go_simp)) (by assumption) ?_
  simp only [Act.put, List.setIfInBounds_toArray, List.set_cons_zero, List.set_cons_succ]
  refine takeV 5 (some 59) ((.bool true)) rfl rfl (by kernel_rfl) (by kernel_rfl) (by kernel_rfl) (fun _ _ _ h => h) (by rfl) (by (intro _w _hSw; (try dsimp only at _hSw); go_simp)) (by assumption) ?_
  simp only [Act.put, List.setIfInBounds_toArray, List.set_cons_zero, List.set_cons_succ]
  refine takeV 6 (some 60) ((.bool true)) rfl rfl (by kernel_rfl) (by kernel_rfl) (by kernel_rfl) (fun _ _ _ h => h) (by rfl) (by (intro _w _hSw; (try dsimp only at _hSw); go_simp)) (by assumption) ?_
  simp only [Act.put, List.setIfInBounds_toArray, List.set_cons_zero, List.set_cons_succ]
  refine takeV 7 (some 61) ((.bool true)) rfl rfl (by kernel_rfl) (by kernel_rfl) (by kernel_rfl) (fun _ _ _ h => h) (by rfl) (by (intro _w _hSw; (try dsimp only at _hSw); go_simp)) (by assumption) ?_
  simp only [Act.put, List.setIfInBounds_toArray, List.set_cons_zero, List.set_cons_succ]
  refine takeV 8 (some 62) ((.int .i64 2)) rfl rfl (by kernel_rfl) (by kernel_rfl) (by kernel_rfl) (fun _ _ _ h => h) (by rfl) (by (intro _w _hSw; (try dsimp only at _hSw); go_simp)) (by assumption) ?_
  simp only [Act.put, List.setIfInBounds_toArray, List.set_cons_zero, List.set_cons_succ]
  refine takeV 9 (some 63) ((.bool true)) rfl rfl (by kernel_rfl) (by kernel_rfl) (by kernel_rfl) (fun _ _ _ h => h) (by rfl) (by (intro _w _hSw; (try dsimp only at _hSw); go_simp)) (by assumption) ?_
  simp only [Act.put, List.setIfInBounds_toArray, List.set_cons_zero, List.set_cons_succ]
  refine takeV 10 (some 64) ((.bool true)) rfl rfl (by kernel_rfl) (by kernel_rfl) (by kernel_rfl) (fun _ _ _ h => h) (by rfl) (by (intro _w _hSw; (try dsimp only at _hSw); go_simp)) (by assumption) ?_
  simp only [Act.put, List.setIfInBounds_toArray, List.set_cons_zero, List.set_cons_succ]
  refine takeV 11 (some 65) ((.bool true)) rfl rfl (by kernel_rfl) (by kernel_rfl) (by kernel_rfl) (fun _ _ _ h => h) (by rfl) (by (intro _w _hSw; (try dsimp only at _hSw); go_simp)) (by assumption) ?_
  simp only [Act.put, List.setIfInBounds_toArray, List.set_cons_zero, List.set_cons_succ]
  refine takeV 12 (some 66) ((.int .i64 2)) rfl rfl (by kernel_rfl) (by kernel_rfl) (by kernel_rfl) (fun _ _ _ h => h) (by rfl) (by (intro _w _hSw; (try dsimp only at _hSw); go_simp)) (by assumption) ?_
  simp only [Act.put, List.setIfInBounds_toArray, List.set_cons_zero, List.set_cons_succ]
  refine takeV 13 (some 67) ((.bool true)) rfl rfl (by kernel_rfl) (by kernel_rfl) (by kernel_rfl) (fun _ _ _ h => h) (by rfl) (by (intro _w _hSw; (try dsimp only at _hSw); go_simp)) (by assumption) ?_
  simp only [Act.put, List.setIfInBounds_toArray, List.set_cons_zero, List.set_cons_succ]
  refine takeV 14 (some 68) ((.bool true)) rfl rfl (by kernel_rfl) (by kernel_rfl) (by kernel_rfl) (fun _ _ _ h => h) (by rfl) (by (intro _w _hSw; (try dsimp only at _hSw); go_simp)) (by assumption) ?_
  simp only [Act.put, List.setIfInBounds_toArray, List.set_cons_zero, List.set_cons_succ]
  refine takeV 15 (some 69) ((.bool true)) rfl rfl (by kernel_rfl) (by kernel_rfl) (by kernel_rfl) (fun _ _ _ h => h) (by rfl) (by (intro _w _hSw; (try dsimp only at _hSw); go_simp)) (by assumption) ?_
  simp only [Act.put, List.setIfInBounds_toArray, List.set_cons_zero, List.set_cons_succ]
  refine takeV 16 (some 70) ((.int .i64 10)) rfl rfl (by kernel_rfl) (by kernel_rfl) (by kernel_rfl) (fun _ _ _ h => h) (by rfl) (by (intro _w _hSw; (try dsimp only at _hSw); go_simp)) (by assumption) ?_
  simp only [Act.put, List.setIfInBounds_toArray, List.set_cons_zero, List.set_cons_succ]
  refine takeV 17 (some 71) ((.bool true)) rfl rfl (by kernel_rfl) (by kernel_rfl) (by kernel_rfl) (fun _ _ _ h => h) (by rfl) (by (intro _w _hSw; (try dsimp only at _hSw); go_simp)) (by assumption) ?_
  simp only [Act.put, List.setIfInBounds_toArray, List.set_cons_zero, List.set_cons_succ]
  refine takeV 18 (some 72) ((.bool true)) rfl rfl (by kernel_rfl) (by kernel_rfl) (by kernel_rfl) (fun _ _ _ h => h) (by rfl) (by (intro _w _hSw; (try dsimp only at _hSw); go_simp)) (by assumption) ?_
  simp only [Act.put, List.setIfInBounds_toArray, List.set_cons_zero, List.set_cons_succ]
  refine takeV 19 (some 73) ((.bool true)) rfl rfl (by kernel_rfl) (by kernel_rfl) (by kernel_rfl) (fun _ _ _ h => h) (by rfl) (by (intro _w _hSw; (try dsimp only at _hSw); go_simp)) (by assumption) ?_
  simp only [Act.put, List.setIfInBounds_toArray, List.set_cons_zero, List.set_cons_succ]
  refine takeV 20 (some 74) ((.int .i64 40)) rfl rfl (by kernel_rfl) (by kernel_rfl) (by kernel_rfl) (fun _ _ _ h => h) (by rfl) (by (intro _w _hSw; (try dsimp only at _hSw); go_simp)) (by assumption) ?_
  simp only [Act.put, List.setIfInBounds_toArray, List.set_cons_zero, List.set_cons_succ]
  refine takeV 21 (some 75) ((.bool true)) rfl rfl (by kernel_rfl) (by kernel_rfl) (by kernel_rfl) (fun _ _ _ h => h) (by rfl) (by (intro _w _hSw; (try dsimp only at _hSw); go_simp)) (by assumption) ?_
  simp only [Act.put, List.setIfInBounds_toArray, List.set_cons_zero, List.set_cons_succ]
  refine takeV 22 (some 76) ((.bool true)) rfl rfl (by kernel_rfl) (by kernel_rfl) (by kernel_rfl) (fun _ _ _ h => h) (by rfl) (by (intro _w _hSw; (try dsimp only at _hSw); go_simp)) (by assumption) ?_
  simp only [Act.put, List.setIfInBounds_toArray, List.set_cons_zero, List.set_cons_succ]
  refine takeV 23 (some 77) ((.bool true)) rfl rfl (by kernel_rfl) (by kernel_rfl) (by kernel_rfl) (fun _ _ _ h => h) (by rfl) (by (intro _w _hSw; (try dsimp only at _hSw); go_simp)) (by assumption) ?_
  simp only [Act.put, List.setIfInBounds_toArray, List.set_cons_zero, List.set_cons_succ]
  refine takeV 24 (some 78) ((.slice A8 0 n8)) rfl rfl (by kernel_rfl) (by kernel_rfl) (by kernel_rfl) (fun _ _ _ h => h) (by rfl) (by (intro _w _hSw; (try dsimp only at _hSw); go_simp)) (by assumption) ?_
  simp only [Act.put, List.setIfInBounds_toArray, List.set_cons_zero, List.set_cons_succ]
  refine takeV 25 (some 79) ((.int .i64 0)) rfl rfl (by kernel_rfl) (by kernel_rfl) (by kernel_rfl) (fun _ _ _ h => h) (by rfl) (by (intro _w _hSw; (try dsimp only at _hSw); go_simp)) (by assumption) ?_
  simp only [Act.put, List.setIfInBounds_toArray, List.set_cons_zero, List.set_cons_succ]
  refine takeV 26 (some 80) ((.bool true)) rfl rfl (by kernel_rfl) (by kernel_rfl) (by kernel_rfl) (fun _ _ _ h => h) (by rfl) (by (intro _w _hSw; (try dsimp only at _hSw); go_simp)) (by assumption) ?_
  simp only [Act.put, List.setIfInBounds_toArray, List.set_cons_zero, List.set_cons_succ]
  refine takeV 27 (some 81) ((.bool true)) rfl rfl (by kernel_rfl) (by kernel_rfl) (by kernel_rfl) (fun _ _ _ h => h) (by rfl) (by (intro _w _hSw; (try dsimp only at _hSw); go_simp)) (by assumption) ?_
  simp only [Act.put, List.setIfInBounds_toArray, List.set_cons_zero, List.set_cons_succ]
  refine takeV 28 (some 82) ((.bool true)) rfl rfl (by kernel_rfl) (by kernel_rfl) (by kernel_rfl) (fun _ _ _ h => h) (by rfl) (by (intro _w _hSw; (try dsimp only at _hSw); go_simp)) (by assumption) ?_
  simp only [Act.put, List.setIfInBounds_toArray, List.set_cons_zero, List.set_cons_succ]
  refine takeV 29 (some 83) ((.slice (some ⟨b9, o9, none⟩) 1 n9)) rfl rfl (by kernel_rfl) (by kernel_rfl) (by kernel_rfl) (fun _ _ _ h => h) (by rfl) (by (intro _w _hSw; (try dsimp only at _hSw); go_simp)) (by assumption) ?_
  simp only [Act.put, List.setIfInBounds_toArray, List.set_cons_zero, List.set_cons_succ]
  refine takeV 30 (some 84) ((.int .i64 1)) rfl rfl (by kernel_rfl) (by kernel_rfl) (by kernel_rfl) (fun _ _ _ h => h) (by rfl) (by (intro _w _hSw; (try dsimp only at _hSw); go_simp)) (by assumption) ?_
  simp only [Act.put, List.setIfInBounds_toArray, List.set_cons_zero, List.set_cons_succ]
  refine takeV 31 (some 85) ((.bool true)) rfl rfl (by kernel_rfl) (by kernel_rfl) (by kernel_rfl) (fun _ _ _ h => h) (by rfl) (by (intro _w _hSw; (try dsimp only at _hSw); go_simp)) (by assumption) ?_
  simp only [Act.put, List.setIfInBounds_toArray, List.set_cons_zero, List.set_cons_succ]
  refine takeV 32 (some 86) ((.bool true)) rfl rfl (by kernel_rfl) (by kernel_rfl) (by kernel_rfl) (fun _ _ _ h => h) (by rfl) (by (intro _w _hSw; (try dsimp only at _hSw); go_simp)) (by assumption) ?_
  simp only [Act.put, List.setIfInBounds_toArray, List.set_cons_zero, List.set_cons_succ]
  refine takeV 33 (some 87) ((.bool true)) rfl rfl (by kernel_rfl) (by kernel_rfl) (by kernel_rfl) (fun _ _ _ h => h) (by rfl) (by (intro _w _hSw; (try dsimp only at _hSw); go_simp)) (by assumption) ?_
  simp only [Act.put, List.setIfInBounds_toArray, List.set_cons_zero, List.set_cons_succ]
  refine takeV 34 (some 88) ((.slice (some ⟨b9, o9, none⟩) 1 n9)) rfl rfl (by kernel_rfl) (by kernel_rfl) (by kernel_rfl) (fun _ _ _ h => h) (by rfl) (by (intro _w _hSw; (try dsimp only at _hSw); go_simp)) (by assumption) ?_
  simp only [Act.put, List.setIfInBounds_toArray, List.set_cons_zero, List.set_cons_succ]
  refine takeV 35 (some 89) ((.pointer (some ⟨b9, o9, none⟩))) rfl rfl (by kernel_rfl) (by kernel_rfl) (by kernel_rfl) (fun _ _ _ h => h) (by rfl) (by (intro _w _hSw; (try dsimp only at _hSw); go_simp)) (by assumption) ?_
  simp only [Act.put, List.setIfInBounds_toArray, List.set_cons_zero, List.set_cons_succ]
  refine takeV 36 (some 90) ((.agg #[.int .i64 5, .int .i64 10, .int .i64 5, .int .i64 7, .string ⟨#[]⟩, .int .i64 1, .bool true, .int .i64 (-9223372036854775808), .int .i64 9223372036854775807])) rfl rfl (by kernel_rfl) (by kernel_rfl) (by kernel_rfl) (fun _ _ _ h => h) (by rfl) (by (intro _w hSw; have k0 : _w.cell? ⟨b9, o9, none⟩ = some (.int .i64 5) := hSw.2.1.c0; have k1 : _w.cell? ⟨b9, o9 + 1, none⟩ = some (.int .i64 10) := hSw.2.1.c1; have k2 : _w.cell? ⟨b9, o9 + 2, none⟩ = some (.int .i64 5) := hSw.2.1.c2; have k3 : _w.cell? ⟨b9, o9 + 3, none⟩ = some (.int .i64 7) := hSw.2.1.c3; have k4 : _w.cell? ⟨b9, o9 + 4, none⟩ = some (.string ⟨#[]⟩) := hSw.2.1.c4; have k5 : _w.cell? ⟨b9, o9 + 5, none⟩ = some (.int .i64 1) := hSw.2.1.c5; have k6 : _w.cell? ⟨b9, o9 + 6, none⟩ = some (.bool true) := hSw.2.1.c6; have k7 : _w.cell? ⟨b9, o9 + 7, none⟩ = some (.int .i64 (-9223372036854775808)) := hSw.2.1.c7; have k8 : _w.cell? ⟨b9, o9 + 8, none⟩ = some (.int .i64 9223372036854775807) := hSw.2.1.c8; clear hSw; go_simp)) (by assumption) ?_
  simp only [Act.put, List.setIfInBounds_toArray, List.set_cons_zero, List.set_cons_succ]
  refine callV 37 rfl (by kernel_rfl) (by rfl) (fun K hK => ?_)
  go_simp
  refine (few_lit _).mono ?_
  rintro e x2 ⟨rfl, hb⟩
  refine hK.out _ _ (SNn.next hHeld hb) (fun hHeld2 => ?_)
  clear hK K hHeld hb
  have hHeld := hHeld2
  clear hHeld2
  try simp only [Act.put, List.setIfInBounds_toArray, List.set_cons_zero, List.set_cons_succ]
  refine takeV 38 (some 92) ((.bool true)) rfl rfl (by kernel_rfl) (by kernel_rfl) (by kernel_rfl) (fun _ _ _ h => h) (by rfl) (by (intro _w _hSw; (try dsimp only at _hSw); go_simp)) (by assumption) ?_
  simp only [Act.put, List.setIfInBounds_toArray, List.set_cons_zero, List.set_cons_succ]
  refine takeV 39 (some 93) ((.bool true)) rfl rfl (by kernel_rfl) (by kernel_rfl) (by kernel_rfl) (fun _ _ _ h => h) (by rfl) (by (intro _w _hSw; (try dsimp only at _hSw); go_simp)) (by assumption) ?_
  simp only [Act.put, List.setIfInBounds_toArray, List.set_cons_zero, List.set_cons_succ]
  refine takeV 40 (some 94) ((.bool true)) rfl rfl (by kernel_rfl) (by kernel_rfl) (by kernel_rfl) (fun _ _ _ h => h) (by rfl) (by (intro _w _hSw; (try dsimp only at _hSw); go_simp)) (by assumption) ?_
  simp only [Act.put, List.setIfInBounds_toArray, List.set_cons_zero, List.set_cons_succ]
  refine takeV 41 (some 95) ((.agg #[.int .i64 5, .int .i64 10, .int .i64 1, .int .i64 7, .string ⟨#[]⟩, .int .i64 0, .bool true, .int .i64 (-9223372036854775808), .int .i64 9223372036854775807])) rfl rfl (by kernel_rfl) (by kernel_rfl) (by kernel_rfl) (fun _ _ _ h => h) (by rfl) (by (intro _w hSw; have k0 : _w.cell? ⟨w1.heap.size, 0, none⟩ = some (.int .i64 5) := hSw.1.1.c0; have k1 : _w.cell? ⟨w1.heap.size, 1, none⟩ = some (.int .i64 10) := hSw.1.1.c1; have k2 : _w.cell? ⟨w1.heap.size, 2, none⟩ = some (.int .i64 1) := hSw.1.1.c2; have k3 : _w.cell? ⟨w1.heap.size, 3, none⟩ = some (.int .i64 7) := hSw.1.1.c3; have k4 : _w.cell? ⟨w1.heap.size, 4, none⟩ = some (.string ⟨#[]⟩) := hSw.1.1.c4; have k5 : _w.cell? ⟨w1.heap.size, 5, none⟩ = some (.int .i64 0) := hSw.1.1.c5; have k6 : _w.cell? ⟨w1.heap.size, 6, none⟩ = some (.bool true) := hSw.1.1.c6; have k7 : _w.cell? ⟨w1.heap.size, 7, none⟩ = some (.int .i64 (-9223372036854775808)) := hSw.1.1.c7; have k8 : _w.cell? ⟨w1.heap.size, 8, none⟩ = some (.int .i64 9223372036854775807) := hSw.1.1.c8; clear hSw; go_simp)) (by assumption) ?_
  simp only [Act.put, List.setIfInBounds_toArray, List.set_cons_zero, List.set_cons_succ]
  refine callV 42 rfl (by kernel_rfl) (by rfl) (fun K hK => ?_)
  go_simp
  refine (chk0_any _).mono ?_
  rintro e x3 ⟨rfl, hb⟩
  refine hK.out _ _ (SNn.next hHeld hb) (fun hHeld2 => ?_)
  clear hK K hHeld hb
  have hHeld := hHeld2
  clear hHeld2
  try simp only [Act.put, List.setIfInBounds_toArray, List.set_cons_zero, List.set_cons_succ]
  refine takeV 43 (some 97) ((.bool true)) rfl rfl (by kernel_rfl) (by kernel_rfl) (by kernel_rfl) (fun _ _ _ h => h) (by rfl) (by (intro _w _hSw; (try dsimp only at _hSw); go_simp)) (by assumption) ?_
  simp only [Act.put, List.setIfInBounds_toArray, List.set_cons_zero, List.set_cons_succ]
  refine takeV 44 (some 98) ((.bool true)) rfl rfl (by kernel_rfl) (by kernel_rfl) (by kernel_rfl) (fun _ _ _ h => h) (by rfl) (by (intro _w _hSw; (try dsimp only at _hSw); go_simp)) (by assumption) ?_
  simp only [Act.put, List.setIfInBounds_toArray, List.set_cons_zero, List.set_cons_succ]
  refine takeV 45 (some 99) ((.bool true)) rfl rfl (by kernel_rfl) (by kernel_rfl) (by kernel_rfl) (fun _ _ _ h => h) (by rfl) (by (intro _w _hSw; (try dsimp only at _hSw); go_simp)) (by assumption) ?_
  simp only [Act.put, List.setIfInBounds_toArray, List.set_cons_zero, List.set_cons_succ]
  refine takeV 46 (some 100) ((.agg #[.bool false, .int .i64 10, .int .i64 0, .int .i64 0, .string ⟨#[]⟩])) rfl rfl (by kernel_rfl) (by kernel_rfl) (by kernel_rfl) (fun _ _ _ h => h) (by rfl) (by (intro _w _hSw; (try dsimp only at _hSw); go_simp)) (by assumption) ?_
  simp only [Act.put, List.setIfInBounds_toArray, List.set_cons_zero, List.set_cons_succ]
  refine takeV 47 (some 101) ((.agg #[.bool false, .int .i64 5, .int .i64 0, .int .i64 0, .string ⟨#[]⟩])) rfl rfl (by kernel_rfl) (by kernel_rfl) (by kernel_rfl) (fun _ _ _ h => h) (by rfl) (by (intro _w _hSw; (try dsimp only at _hSw); go_simp)) (by assumption) ?_
  simp only [Act.put, List.setIfInBounds_toArray, List.set_cons_zero, List.set_cons_succ]
  refine callV2 48 49 rfl rfl (by kernel_rfl) (by rfl) (by rfl) (fun K hK => ?_) (fun K hK => ?_)
  · go_simp
    have hsl := slP2_lit (W := x3) (t := 45) ⟨false, 10, 0, 0, ⟨#[]⟩⟩ ⟨false, 5, 0, 0, ⟨#[]⟩⟩
    refine hK.out _ _ (SNn.next hHeld ((Below.refl _ x3).alloc (Nat.le_refl _) _)) (fun hHeld2 => ?_)
    clear hK K hHeld
    have hHeld := hHeld2
    clear hHeld2
    try simp only [Act.put, List.setIfInBounds_toArray, List.set_cons_zero, List.set_cons_succ]
    refine callV 49 rfl (by kernel_rfl) (by rfl) (fun K hK => ?_)
    go_simp
    refine (few_lit _).mono ?_
    rintro e x5 ⟨rfl, hb⟩
    refine hK.out _ _ (SNn.next hHeld hb) (fun hHeld2 => ?_)
    have HSL : Hid (SlP x5 x5.heap.size (some ⟨x3.heap.size, 0, none⟩) [⟨false, 10, 0, 0, ⟨#[]⟩⟩, ⟨false, 5, 0, 0, ⟨#[]⟩⟩]) := (hsl.next hb (by simp)).more (Nat.le_trans (by simp) hb.size)
    clear hK K hHeld hb hsl
    have hHeld := hHeld2
    clear hHeld2
    try simp only [Act.put, List.setIfInBounds_toArray, List.set_cons_zero, List.set_cons_succ]
    obtain ⟨g48, hg⟩ : ∃ g, x3.heap.size = g := ⟨_, rfl⟩
    rw [hg] at HSL ⊢
    clear hg
    refine callV 50 rfl (by kernel_rfl) (by rfl) (fun K hK => ?_)
    go_simp
    refine (beg2_any g48 _ _ HSL.out).mono ?_
    rintro e x6 ⟨rfl, hb⟩
    refine hK.out _ _ (SNn.next hHeld hb) (fun hHeld2 => ?_)
    clear hK K hHeld hb HSL
    have hHeld := hHeld2
    clear hHeld2
    try simp only [Act.put, List.setIfInBounds_toArray, List.set_cons_zero, List.set_cons_succ]
    refine takeV 51 (some 105) ((.bool true)) rfl rfl (by kernel_rfl) (by kernel_rfl) (by kernel_rfl) (fun _ _ _ h => h) (by rfl) (by (intro _w _hSw; (try dsimp only at _hSw); go_simp)) (by assumption) ?_
    simp only [Act.put, List.setIfInBounds_toArray, List.set_cons_zero, List.set_cons_succ]
    refine takeV 52 (some 106) ((.bool true)) rfl rfl (by kernel_rfl) (by kernel_rfl) (by kernel_rfl) (fun _ _ _ h => h) (by rfl) (by (intro _w _hSw; (try dsimp only at _hSw); go_simp)) (by assumption) ?_
    simp only [Act.put, List.setIfInBounds_toArray, List.set_cons_zero, List.set_cons_succ]
    refine takeV 53 (some 107) ((.agg #[.bool false, .int .i64 10, .int .i64 0, .int .i64 0, .string ⟨#[]⟩])) rfl rfl (by kernel_rfl) (by kernel_rfl) (by kernel_rfl) (fun _ _ _ h => h) (by rfl) (by (intro _w _hSw; (try dsimp only at _hSw); go_simp)) (by assumption) ?_
    simp only [Act.put, List.setIfInBounds_toArray, List.set_cons_zero, List.set_cons_succ]
    refine callV2 54 55 rfl rfl (by kernel_rfl) (by rfl) (by rfl) (fun K hK => ?_) (fun K hK => ?_)
    · go_simp
      have hsl := slP1_lit (W := x6) (t := 45) ⟨false, 10, 0, 0, ⟨#[]⟩⟩
      refine hK.out _ _ (SNn.next hHeld ((Below.refl _ x6).alloc (Nat.le_refl _) _)) (fun hHeld2 => ?_)
      clear hK K hHeld
      have hHeld := hHeld2
      clear hHeld2
      try simp only [Act.put, List.setIfInBounds_toArray, List.set_cons_zero, List.set_cons_succ]
      refine callV 55 rfl (by kernel_rfl) (by rfl) (fun K hK => ?_)
      go_simp
      refine (few_lit _).mono ?_
      rintro e x8 ⟨rfl, hb⟩
      refine hK.out _ _ (SNn.next hHeld hb) (fun hHeld2 => ?_)
      have HSL : Hid (SlP x8 x8.heap.size (some ⟨x6.heap.size, 0, none⟩) [⟨false, 10, 0, 0, ⟨#[]⟩⟩]) := (hsl.next hb (by simp)).more (Nat.le_trans (by simp) hb.size)
      clear hK K hHeld hb hsl
      have hHeld := hHeld2
      clear hHeld2
      try simp only [Act.put, List.setIfInBounds_toArray, List.set_cons_zero, List.set_cons_succ]
      obtain ⟨g54, hg⟩ : ∃ g, x6.heap.size = g := ⟨_, rfl⟩
      rw [hg] at HSL ⊢
      clear hg
      refine callV 56 rfl (by kernel_rfl) (by rfl) (fun K hK => ?_)
      go_simp
      refine (beg1_any g54 _ _ HSL.out).mono ?_
      rintro e x9 ⟨rfl, hb⟩
      refine hK.out _ _ (SNn.next hHeld hb) (fun hHeld2 => ?_)
      clear hK K hHeld hb HSL
      have hHeld := hHeld2
      clear hHeld2
      try simp only [Act.put, List.setIfInBounds_toArray, List.set_cons_zero, List.set_cons_succ]
      refine takeV 57 (some 111) ((.bool true)) rfl rfl (by kernel_rfl) (by kernel_rfl) (by kernel_rfl) (fun _ _ _ h => h) (by rfl) (by (intro _w _hSw; (try dsimp only at _hSw); go_simp)) (by assumption) ?_
      simp only [Act.put, List.setIfInBounds_toArray, List.set_cons_zero, List.set_cons_succ]
      refine takeV 58 (some 112) ((.bool true)) rfl rfl (by kernel_rfl) (by kernel_rfl) (by kernel_rfl) (fun _ _ _ h => h) (by rfl) (by (intro _w _hSw; (try dsimp only at _hSw); go_simp)) (by assumption) ?_
      simp only [Act.put, List.setIfInBounds_toArray, List.set_cons_zero, List.set_cons_succ]
      refine takeV 59 (some 113) ((.bool true)) rfl rfl (by kernel_rfl) (by kernel_rfl) (by kernel_rfl) (fun _ _ _ h => h) (by rfl) (by (intro _w _hSw; (try dsimp only at _hSw); go_simp)) (by assumption) ?_
      simp only [Act.put, List.setIfInBounds_toArray, List.set_cons_zero, List.set_cons_succ]
      refine callV 60 rfl (by kernel_rfl) (by rfl) (fun K hK => ?_)
      go_simp
      refine (few_lit _).mono ?_
      rintro e xa ⟨rfl, hb⟩
      refine hK.out _ _ (SNn.next hHeld hb) (fun hHeld2 => ?_)
      clear hK K hHeld hb
      have hHeld := hHeld2
      clear hHeld2
      try simp only [Act.put, List.setIfInBounds_toArray, List.set_cons_zero, List.set_cons_succ]
      refine callV 61 rfl (by kernel_rfl) (by rfl) (fun K hK => ?_)
      go_simp
      refine (beg0_any _).mono ?_
      rintro e xb ⟨rfl, hb⟩
      refine hK.out _ _ (SNn.next hHeld hb) (fun hHeld2 => ?_)
      clear hK K hHeld hb
      have hHeld := hHeld2
      clear hHeld2
      try simp only [Act.put, List.setIfInBounds_toArray, List.set_cons_zero, List.set_cons_succ]
      refine takeV 62 (some 116) ((.bool true)) rfl rfl (by kernel_rfl) (by kernel_rfl) (by kernel_rfl) (fun _ _ _ h => h) (by rfl) (by (intro _w _hSw; (try dsimp only at _hSw); go_simp)) (by assumption) ?_
      simp only [Act.put, List.setIfInBounds_toArray, List.set_cons_zero, List.set_cons_succ]
      refine takeV 63 (some 0) ((.bool true)) rfl rfl (by kernel_rfl) (by kernel_rfl) (by kernel_rfl) (fun _ _ _ h => h) (by rfl) (by (intro _w _hSw; (try dsimp only at _hSw); go_simp)) (by assumption) ?_
      simp only [Act.put, List.setIfInBounds_toArray, List.set_cons_zero]
      refine wpAnyH_done (by kernel_rfl) ?_ _
      have HEND := Lib.hid hHeld.1.2
      clear hHeld
      go_wp2
      go_ret
      exact ⟨rfl, HEND.out⟩
    · go_simp
      refine (few_lit _).mono ?_
      rintro e x7 ⟨rfl, hb⟩
      refine hK.out _ _ (SNn.next hHeld hb) (fun hHeld2 => ?_)
      clear hK K hHeld hb
      have hHeld := hHeld2
      clear hHeld2
      try simp only [Act.put, List.setIfInBounds_toArray, List.set_cons_zero, List.set_cons_succ]
      have hsl := slP1_lit (W := x7) (t := 45) ⟨false, 10, 0, 0, ⟨#[]⟩⟩
      refine callV 54 rfl (by kernel_rfl) (by rfl) (fun K hK => ?_)
      go_simp
      refine hK.out _ _ (SNn.next hHeld ((Below.refl _ x7).alloc (Nat.le_refl _) _)) (fun hHeld2 => ?_)
      have HSL : Hid (SlP (x7.alloc (.cells #[.bool false, .int .i64 10, .int .i64 0, .int .i64 0, .string ⟨#[]⟩] 45)) (x7.alloc (.cells #[.bool false, .int .i64 10, .int .i64 0, .int .i64 0, .string ⟨#[]⟩] 45)).heap.size (some ⟨x7.heap.size, 0, none⟩) [⟨false, 10, 0, 0, ⟨#[]⟩⟩]) := by rw [World.size_alloc]; exact hsl
      clear hK K hHeld hsl
      have hHeld := hHeld2
      clear hHeld2
      try simp only [Act.put, List.setIfInBounds_toArray, List.set_cons_zero, List.set_cons_succ]
      obtain ⟨x8, hw9⟩ : ∃ x, x7.alloc (.cells #[.bool false, .int .i64 10, .int .i64 0, .int .i64 0, .string ⟨#[]⟩] 45) = x := ⟨_, rfl⟩
      rw [hw9] at HSL hHeld ⊢
      clear hw9
      obtain ⟨g54, hg⟩ : ∃ g, x7.heap.size = g := ⟨_, rfl⟩
      rw [hg] at HSL ⊢
      clear hg
      refine callV 56 rfl (by kernel_rfl) (by rfl) (fun K hK => ?_)
      go_simp
      refine (beg1_any g54 _ _ HSL.out).mono ?_
      rintro e x9 ⟨rfl, hb⟩
      refine hK.out _ _ (SNn.next hHeld hb) (fun hHeld2 => ?_)
      clear hK K hHeld hb HSL
      have hHeld := hHeld2
      clear hHeld2
      try simp only [Act.put, List.setIfInBounds_toArray, List.set_cons_zero, List.set_cons_succ]
      refine takeV 57 (some 111) ((.bool true)) rfl rfl (by kernel_rfl) (by kernel_rfl) (by kernel_rfl) (fun _ _ _ h => h) (by rfl) (by (intro _w _hSw; (try dsimp only at _hSw); go_simp)) (by assumption) ?_
      simp only [Act.put, List.setIfInBounds_toArray, List.set_cons_zero, List.set_cons_succ]
      refine takeV 58 (some 112) ((.bool true)) rfl rfl (by kernel_rfl) (by kernel_rfl) (by kernel_rfl) (fun _ _ _ h => h) (by rfl) (by (intro _w _hSw; (try dsimp only at _hSw); go_simp)) (by assumption) ?_
      simp only [Act.put, List.setIfInBounds_toArray, List.set_cons_zero, List.set_cons_succ]
      refine takeV 59 (some 113) ((.bool true)) rfl rfl (by kernel_rfl) (by kernel_rfl) (by kernel_rfl) (fun _ _ _ h => h) (by rfl) (by (intro _w _hSw; (try dsimp only at _hSw); go_simp)) (by assumption) ?_
      simp only [Act.put, List.setIfInBounds_toArray, List.set_cons_zero, List.set_cons_succ]
      refine callV 60 rfl (by kernel_rfl) (by rfl) (fun K hK => ?_)
      go_simp
      refine (few_lit _).mono ?_
      rintro e xa ⟨rfl, hb⟩
      refine hK.out _ _ (SNn.next hHeld hb) (fun hHeld2 => ?_)
      clear hK K hHeld hb
      have hHeld := hHeld2
      clear hHeld2
      try simp only [Act.put, List.setIfInBounds_toArray, List.set_cons_zero, List.set_cons_succ]
      refine callV 61 rfl (by kernel_rfl) (by rfl) (fun K hK => ?_)
      go_simp
      refine (beg0_any _).mono ?_
      rintro e xb ⟨rfl, hb⟩
      refine hK.out _ _ (SNn.next hHeld hb) (fun hHeld2 => ?_)
      clear hK K hHeld hb
      have hHeld := hHeld2
      clear hHeld2
      try simp only [Act.put, List.setIfInBounds_toArray, List.set_cons_zero, List.set_cons_succ]
      refine takeV 62 (some 116) ((.bool true)) rfl rfl (by kernel_rfl) (by kernel_rfl) (by kernel_rfl) (fun _ _ _ h => h) (by rfl) (by (intro _w _hSw; (try dsimp only at _hSw); go_simp)) (by assumption) ?_
      simp only [Act.put, List.setIfInBounds_toArray, List.set_cons_zero, List.set_cons_succ]
      refine takeV 63 (some 0) ((.bool true)) rfl rfl (by kernel_rfl) (by kernel_rfl) (by kernel_rfl) (fun _ _ _ h => h) (by rfl) (by (intro _w _hSw; (try dsimp only at _hSw); go_simp)) (by assumption) ?_
      simp only [Act.put, List.setIfInBounds_toArray, List.set_cons_zero]
      refine wpAnyH_done (by kernel_rfl) ?_ _
      have HEND := Lib.hid hHeld.1.2
      clear hHeld
      go_wp2
      go_ret
      exact ⟨rfl, HEND.out⟩
  · go_simp
    refine (few_lit _).mono ?_
    rintro e x4 ⟨rfl, hb⟩
    refine hK.out _ _ (SNn.next hHeld hb) (fun hHeld2 => ?_)
    clear hK K hHeld hb
    have hHeld := hHeld2
    clear hHeld2
    try simp only [Act.put, List.setIfInBounds_toArray, List.set_cons_zero, List.set_cons_succ]
    have hsl := slP2_lit (W := x4) (t := 45) ⟨false, 10, 0, 0, ⟨#[]⟩⟩ ⟨false, 5, 0, 0, ⟨#[]⟩⟩
    refine callV 48 rfl (by kernel_rfl) (by rfl) (fun K hK => ?_)
    go_simp
    refine hK.out _ _ (SNn.next hHeld ((Below.refl _ x4).alloc (Nat.le_refl _) _)) (fun hHeld2 => ?_)
    have HSL : Hid (SlP (x4.alloc (.cells #[.bool false, .int .i64 10, .int .i64 0, .int .i64 0, .string ⟨#[]⟩, .bool false, .int .i64 5, .int .i64 0, .int .i64 0, .string ⟨#[]⟩] 45)) (x4.alloc (.cells #[.bool false, .int .i64 10, .int .i64 0, .int .i64 0, .string ⟨#[]⟩, .bool false, .int .i64 5, .int .i64 0, .int .i64 0, .string ⟨#[]⟩] 45)).heap.size (some ⟨x4.heap.size, 0, none⟩) [⟨false, 10, 0, 0, ⟨#[]⟩⟩, ⟨false, 5, 0, 0, ⟨#[]⟩⟩]) := by rw [World.size_alloc]; exact hsl
    clear hK K hHeld hsl
    have hHeld := hHeld2
    clear hHeld2
    try simp only [Act.put, List.setIfInBounds_toArray, List.set_cons_zero, List.set_cons_succ]
    obtain ⟨x5, hw9⟩ : ∃ x, x4.alloc (.cells #[.bool false, .int .i64 10, .int .i64 0, .int .i64 0, .string ⟨#[]⟩, .bool false, .int .i64 5, .int .i64 0, .int .i64 0, .string ⟨#[]⟩] 45) = x := ⟨_, rfl⟩
    rw [hw9] at HSL hHeld ⊢
    clear hw9
    obtain ⟨g48, hg⟩ : ∃ g, x4.heap.size = g := ⟨_, rfl⟩
    rw [hg] at HSL ⊢
    clear hg
    refine callV 50 rfl (by kernel_rfl) (by rfl) (fun K hK => ?_)
    go_simp
    refine (beg2_any g48 _ _ HSL.out).mono ?_
    rintro e x6 ⟨rfl, hb⟩
    refine hK.out _ _ (SNn.next hHeld hb) (fun hHeld2 => ?_)
    clear hK K hHeld hb HSL
    have hHeld := hHeld2
    clear hHeld2
    try simp only [Act.put, List.setIfInBounds_toArray, List.set_cons_zero, List.set_cons_succ]
    refine takeV 51 (some 105) ((.bool true)) rfl rfl (by kernel_rfl) (by kernel_rfl) (by kernel_rfl) (fun _ _ _ h => h) (by rfl) (by (intro _w _hSw; (try dsimp only at _hSw); go_simp)) (by assumption) ?_
    simp only [Act.put, List.setIfInBounds_toArray, List.set_cons_zero, List.set_cons_succ]
    refine takeV 52 (some 106) ((.bool true)) rfl rfl (by kernel_rfl) (by kernel_rfl) (by kernel_rfl) (fun _ _ _ h => h) (by rfl) (by (intro _w _hSw; (try dsimp only at _hSw); go_simp)) (by assumption) ?_
    simp only [Act.put, List.setIfInBounds_toArray, List.set_cons_zero, List.set_cons_succ]
    refine takeV 53 (some 107) ((.agg #[.bool false, .int .i64 10, .int .i64 0, .int .i64 0, .string ⟨#[]⟩])) rfl rfl (by kernel_rfl) (by kernel_rfl) (by kernel_rfl) (fun _ _ _ h => h) (by rfl) (by (intro _w _hSw; (try dsimp only at _hSw); go_simp)) (by assumption) ?_
    simp only [Act.put, List.setIfInBounds_toArray, List.set_cons_zero, List.set_cons_succ]
    refine callV2 54 55 rfl rfl (by kernel_rfl) (by rfl) (by rfl) (fun K hK => ?_) (fun K hK => ?_)
    · go_simp
      have hsl := slP1_lit (W := x6) (t := 45) ⟨false, 10, 0, 0, ⟨#[]⟩⟩
      refine hK.out _ _ (SNn.next hHeld ((Below.refl _ x6).alloc (Nat.le_refl _) _)) (fun hHeld2 => ?_)
      clear hK K hHeld
      have hHeld := hHeld2
      clear hHeld2
      try simp only [Act.put, List.setIfInBounds_toArray, List.set_cons_zero, List.set_cons_succ]
      refine callV 55 rfl (by kernel_rfl) (by rfl) (fun K hK => ?_)
      go_simp
      refine (few_lit _).mono ?_
      rintro e x8 ⟨rfl, hb⟩
      refine hK.out _ _ (SNn.next hHeld hb) (fun hHeld2 => ?_)
      have HSL : Hid (SlP x8 x8.heap.size (some ⟨x6.heap.size, 0, none⟩) [⟨false, 10, 0, 0, ⟨#[]⟩⟩]) := (hsl.next hb (by simp)).more (Nat.le_trans (by simp) hb.size)
      clear hK K hHeld hb hsl
      have hHeld := hHeld2
      clear hHeld2
      try simp only [Act.put, List.setIfInBounds_toArray, List.set_cons_zero, List.set_cons_succ]
      obtain ⟨g54, hg⟩ : ∃ g, x6.heap.size = g := ⟨_, rfl⟩
      rw [hg] at HSL ⊢
      clear hg
      refine callV 56 rfl (by kernel_rfl) (by rfl) (fun K hK => ?_)
      go_simp
      refine (beg1_any g54 _ _ HSL.out).mono ?_
      rintro e x9 ⟨rfl, hb⟩
      refine hK.out _ _ (SNn.next hHeld hb) (fun hHeld2 => ?_)
      clear hK K hHeld hb HSL
      have hHeld := hHeld2
      clear hHeld2
      try simp only [Act.put, List.setIfInBounds_toArray, List.set_cons_zero, List.set_cons_succ]
      refine takeV 57 (some 111) ((.bool true)) rfl rfl (by kernel_rfl) (by kernel_rfl) (by kernel_rfl) (fun _ _ _ h => h) (by rfl) (by (intro _w _hSw; (try dsimp only at _hSw); go_simp)) (by assumption) ?_
      simp only [Act.put, List.setIfInBounds_toArray, List.set_cons_zero, List.set_cons_succ]
      refine takeV 58 (some 112) ((.bool true)) rfl rfl (by kernel_rfl) (by kernel_rfl) (by kernel_rfl) (fun _ _ _ h => h) (by rfl) (by (intro _w _hSw; (try dsimp only at _hSw); go_simp)) (by assumption) ?_
      simp only [Act.put, List.setIfInBounds_toArray, List.set_cons_zero, List.set_cons_succ]
      refine takeV 59 (some 113) ((.bool true)) rfl rfl (by kernel_rfl) (by kernel_rfl) (by kernel_rfl) (fun _ _ _ h => h) (by rfl) (by (intro _w _hSw; (try dsimp only at _hSw); go_simp)) (by assumption) ?_
      simp only [Act.put, List.setIfInBounds_toArray, List.set_cons_zero, List.set_cons_succ]
      refine callV 60 rfl (by kernel_rfl) (by rfl) (fun K hK => ?_)
      go_simp
      refine (few_lit _).mono ?_
      rintro e xa ⟨rfl, hb⟩
      refine hK.out _ _ (SNn.next hHeld hb) (fun hHeld2 => ?_)
      clear hK K hHeld hb
      have hHeld := hHeld2
      clear hHeld2
      try simp only [Act.put, List.setIfInBounds_toArray, List.set_cons_zero, List.set_cons_succ]
      refine callV 61 rfl (by kernel_rfl) (by rfl) (fun K hK => ?_)
      go_simp
      refine (beg0_any _).mono ?_
      rintro e xb ⟨rfl, hb⟩
      refine hK.out _ _ (SNn.next hHeld hb) (fun hHeld2 => ?_)
      clear hK K hHeld hb
      have hHeld := hHeld2
      clear hHeld2
      try simp only [Act.put, List.setIfInBounds_toArray, List.set_cons_zero, List.set_cons_succ]
      refine takeV 62 (some 116) ((.bool true)) rfl rfl (by kernel_rfl) (by kernel_rfl) (by kernel_rfl) (fun _ _ _ h => h) (by rfl) (by (intro _w _hSw; (try dsimp only at _hSw); go_simp)) (by assumption) ?_
      simp only [Act.put, List.setIfInBounds_toArray, List.set_cons_zero, List.set_cons_succ]
      refine takeV 63 (some 0) ((.bool true)) rfl rfl (by kernel_rfl) (by kernel_rfl) (by kernel_rfl) (fun _ _ _ h => h) (by rfl) (by (intro _w _hSw; (try dsimp only at _hSw); go_simp)) (by assumption) ?_
      simp only [Act.put, List.setIfInBounds_toArray, List.set_cons_zero]
      refine wpAnyH_done (by kernel_rfl) ?_ _
      have HEND := Lib.hid hHeld.1.2
      clear hHeld
      go_wp2
      go_ret
      exact ⟨rfl, HEND.out⟩
    · go_simp
      refine (few_lit _).mono ?_
      rintro e x7 ⟨rfl, hb⟩
      refine hK.out _ _ (SNn.next hHeld hb) (fun hHeld2 => ?_)
      clear hK K hHeld hb
      have hHeld := hHeld2
      clear hHeld2
      try simp only [Act.put, List.setIfInBounds_toArray, List.set_cons_zero, List.set_cons_succ]
      have hsl := slP1_lit (W := x7) (t := 45) ⟨false, 10, 0, 0, ⟨#[]⟩⟩
      refine callV 54 rfl (by kernel_rfl) (by rfl) (fun K hK => ?_)
      go_simp
      refine hK.out _ _ (SNn.next hHeld ((Below.refl _ x7).alloc (Nat.le_refl _) _)) (fun hHeld2 => ?_)
      have HSL : Hid (SlP (x7.alloc (.cells #[.bool false, .int .i64 10, .int .i64 0, .int .i64 0, .string ⟨#[]⟩] 45)) (x7.alloc (.cells #[.bool false, .int .i64 10, .int .i64 0, .int .i64 0, .string ⟨#[]⟩] 45)).heap.size (some ⟨x7.heap.size, 0, none⟩) [⟨false, 10, 0, 0, ⟨#[]⟩⟩]) := by rw [World.size_alloc]; exact hsl
      clear hK K hHeld hsl
      have hHeld := hHeld2
      clear hHeld2
      try simp only [Act.put, List.setIfInBounds_toArray, List.set_cons_zero, List.set_cons_succ]
      obtain ⟨x8, hw9⟩ : ∃ x, x7.alloc (.cells #[.bool false, .int .i64 10, .int .i64 0, .int .i64 0, .string ⟨#[]⟩] 45) = x := ⟨_, rfl⟩
      rw [hw9] at HSL hHeld ⊢
      clear hw9
      obtain ⟨g54, hg⟩ : ∃ g, x7.heap.size = g := ⟨_, rfl⟩
      rw [hg] at HSL ⊢
      clear hg
      refine callV 56 rfl (by kernel_rfl) (by rfl) (fun K hK => ?_)
      go_simp
      refine (beg1_any g54 _ _ HSL.out).mono ?_
      rintro e x9 ⟨rfl, hb⟩
      refine hK.out _ _ (SNn.next hHeld hb) (fun hHeld2 => ?_)
      clear hK K hHeld hb HSL
      have hHeld := hHeld2
      clear hHeld2
      try simp only [Act.put, List.setIfInBounds_toArray, List.set_cons_zero, List.set_cons_succ]
      refine takeV 57 (some 111) ((.bool true)) rfl rfl (by kernel_rfl) (by kernel_rfl) (by kernel_rfl) (fun _ _ _ h => h) (by rfl) (by (intro _w _hSw; (try dsimp only at _hSw); go_simp)) (by assumption) ?_
      simp only [Act.put, List.setIfInBounds_toArray, List.set_cons_zero, List.set_cons_succ]
      refine takeV 58 (some 112) ((.bool true)) rfl rfl (by kernel_rfl) (by kernel_rfl) (by kernel_rfl) (fun _ _ _ h => h) (by rfl) (by (intro _w _hSw; (try dsimp only at _hSw); go_simp)) (by assumption) ?_
      simp only [Act.put, List.setIfInBounds_toArray, List.set_cons_zero, List.set_cons_succ]
      refine takeV 59 (some 113) ((.bool true)) rfl rfl (by kernel_rfl) (by kernel_rfl) (by kernel_rfl) (fun _ _ _ h => h) (by rfl) (by (intro _w _hSw; (try dsimp only at _hSw); go_simp)) (by assumption) ?_
      simp only [Act.put, List.setIfInBounds_toArray, List.set_cons_zero, List.set_cons_succ]
      refine callV 60 rfl (by kernel_rfl) (by rfl) (fun K hK => ?_)
      go_simp
      refine (few_lit _).mono ?_
      rintro e xa ⟨rfl, hb⟩
      refine hK.out _ _ (SNn.next hHeld hb) (fun hHeld2 => ?_)
      clear hK K hHeld hb
      have hHeld := hHeld2
      clear hHeld2
      try simp only [Act.put, List.setIfInBounds_toArray, List.set_cons_zero, List.set_cons_succ]
      refine callV 61 rfl (by kernel_rfl) (by rfl) (fun K hK => ?_)
      go_simp
      refine (beg0_any _).mono ?_
      rintro e xb ⟨rfl, hb⟩
      refine hK.out _ _ (SNn.next hHeld hb) (fun hHeld2 => ?_)
      clear hK K hHeld hb
      have hHeld := hHeld2
      clear hHeld2
      try simp only [Act.put, List.setIfInBounds_toArray, List.set_cons_zero, List.set_cons_succ]
      refine takeV 62 (some 116) ((.bool true)) rfl rfl (by kernel_rfl) (by kernel_rfl) (by kernel_rfl) (fun _ _ _ h => h) (by rfl) (by (intro _w _hSw; (try dsimp only at _hSw); go_simp)) (by assumption) ?_
      simp only [Act.put, List.setIfInBounds_toArray, List.set_cons_zero, List.set_cons_succ]
      refine takeV 63 (some 0) ((.bool true)) rfl rfl (by kernel_rfl) (by kernel_rfl) (by kernel_rfl) (fun _ _ _ h => h) (by rfl) (by (intro _w _hSw; (try dsimp only at _hSw); go_simp)) (by assumption) ?_
      simp only [Act.put, List.setIfInBounds_toArray, List.set_cons_zero]
      refine wpAnyH_done (by kernel_rfl) ?_ _
      have HEND := Lib.hid hHeld.1.2
      clear hHeld
      go_wp2
      go_ret
      exact ⟨rfl, HEND.out⟩
end Go.Proofs.Ytkoknogefmfmnaa
