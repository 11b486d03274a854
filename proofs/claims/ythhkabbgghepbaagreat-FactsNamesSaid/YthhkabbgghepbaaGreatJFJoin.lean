/-
  CONTRACT: joined (turns joined by halves).
-/
import Derived.StillTailTactics
import Derived.Test.YthhkabbgghepbaaGreatJFThen
import Derived.Test.YthhkabbgghepbaaGreatJDSl
namespace Go.Proofs.YthhkabbgghepbaaGreat
open Go.RowKit Go.Shelf

theorem wpAnyH_mono {P : Program} {ops : Array Oper} {Q : Exit → Act → World → Prop} {md : Region.Mode} {S S' : World → Prop} (hs : ∀ w, S' w → S w) :
    ∀ (fuel : Nat) (listed : Array Bool) (a : Act) (w : World), wpAnyH P md ops Q S' fuel listed a w → wpAnyH P md ops Q S fuel listed a w
  | 0, _, _, _, h => h
  | fuel + 1, _, _, _, h => ⟨h.1, fun i hi => wpOp_mono (fun a' w' h' => ⟨hs _ h'.1, wpAnyH_mono hs fuel _ a' w' h'.2⟩) (h.2 i hi)⟩

/-- a turn in a slice -/
def TnAt (W : World) (b o : Nat) (x : TurnP) : Prop := ∃ vi vo, W.cell? ⟨b, o, none⟩ = some vi ∧ W.cell? ⟨b, o + 1, none⟩ = some vo ∧ SV W vi x.i ∧ SV W vo x.o
def SlT (W : World) (A : Option Addr) (ts : List TurnP) : Prop := ts ≠ [] → ∃ b o, A = some ⟨b, o, none⟩ ∧ b < W.heap.size ∧ ∀ (j : Nat) (v : TurnP), ts[j]? = some v → TnAt W b (o + j * 2) v
theorem SlT.next {W W' : World} {A : Option Addr} {ts : List TurnP} (h : SlT W A ts) (hb : Below W.heap.size W W') : SlT W' A ts := fun hl => by
  obtain ⟨b, o, e, hlt, hc⟩ := h hl
  refine ⟨b, o, e, Nat.lt_of_lt_of_le hlt hb.size, fun j v hv => ?_⟩
  obtain ⟨vi, vo, h1, h2, h3, h4⟩ := hc j v hv
  exact ⟨vi, vo, (hb.cell (p := ⟨b, o + j * 2, none⟩) hlt).trans h1, (hb.cell (p := ⟨b, o + j * 2 + 1, none⟩) hlt).trans h2, h3.next hb, h4.next hb⟩
def cutT (A : Option Addr) (c k : Nat) : Option Addr := if c = k then A else A.map (·.add (k * 2))
theorem cutT_zero (A : Option Addr) (c : Nat) : cutT A c 0 = A := by
  unfold cutT
  split
  · rfl
  · cases A with
    | none => rfl
    | some a =>
      show some (a.add (0 * 2)) = some a
      rw [Nat.zero_mul]
      congr 1
theorem sliceT_from (A : Option Addr) (n c k : Nat) (hk : k ≤ n) (_hc : n ≤ c) (w : World) : (Instr.slice 74 (.slice A n c) (some (.int .i64 (k : Int))) none none).run Tryz.prog w = .ok (.slice (cutT A c k) (n - k) (c - k)) w := by
  have hT : Tryz.prog.underlying 74 = some (.slice (Tryz.prog.elem 74)) := by kernel_rfl
  have hS : (Go.sizeOf (Tryz.prog.elem 74)).run Tryz.prog w = .ok 2 w := by kernel_rfl
  rw [run_slice_l (w := w) 74 A n c hT .i64 (k : Int) (by omega) (by omega), hS]
  simp [Result.andThen, sliced, cutT]
theorem sliceT_to (A : Option Addr) (n c k : Nat) (hk : k ≤ c) (w : World) : (Instr.slice 74 (.slice A n c) none (some (.int .i64 (k : Int))) none).run Tryz.prog w = .ok (.slice A k c) w := by
  have hT : Tryz.prog.underlying 74 = some (.slice (Tryz.prog.elem 74)) := by kernel_rfl
  have hS : (Go.sizeOf (Tryz.prog.elem 74)).run Tryz.prog w = .ok 2 w := by kernel_rfl
  rw [run_slice_h (w := w) 74 A n c hT .i64 (k : Int) (by omega) (by omega), hS]
  have := cutT_zero A c
  unfold cutT at this
  simp [Result.andThen, sliced]
  simpa using this
theorem SlT.take {W : World} {A : Option Addr} {ts : List TurnP} (h : SlT W A ts) (k : Nat) : SlT W A (ts.take k) := fun hl => by
  obtain ⟨b, o, e, hlt, hc⟩ := h (fun e => hl (by rw [e]; simp))
  refine ⟨b, o, e, hlt, fun j v hv => hc j v ?_⟩
  rw [List.getElem?_take] at hv
  split at hv
  · exact hv
  · cases hv
theorem SlT.drop {W : World} {A : Option Addr} {ts : List TurnP} (h : SlT W A ts) {c : Nat} (k : Nat) (hlc : ts.length ≤ c) : SlT W (cutT A c k) (ts.drop k) := fun hl => by
  have hk : k < ts.length := by
    rcases Nat.lt_or_ge k ts.length with h1 | h1
    · exact h1
    · exact absurd (List.drop_of_length_le h1) hl
  obtain ⟨b, o, rfl, hlt, hc⟩ := h (fun e => by rw [e] at hk; exact absurd hk (Nat.not_lt_zero _))
  unfold cutT
  rw [if_neg (by omega)]
  refine ⟨b, o + k * 2, by show some (Addr.add ⟨b, o, none⟩ (k * 2)) = _; rw [addI], hlt, fun j v hv => ?_⟩
  rw [List.getElem?_drop] at hv
  have := hc (k + j) v hv
  rwa [show o + (k + j) * 2 = o + k * 2 + j * 2 from by omega] at this
/-- What joined answers. -/
def JoinEnd (E : List Int) (w : World) (ts : List TurnP) (e : Ending) (w' : World) : Prop := (∃ z vi vo, e = .returned (.agg #[vi, vo]) ∧ SV w' vi z.i ∧ SV w' vo z.o ∧ Joins E ts z) ∧ Below w.heap.size w w'

set_option maxRecDepth 100000 in
set_option maxHeartbeats 2000000 in
theorem join_one (E : List Int) (A : Option Addr) (c : Nat) (x : TurnP) (w : World) (hs : SlT w A [x]) (hx : TurnOk E x) :
    Calls Tryz.prog 36 #[.slice A 1 c] w (JoinEnd E w [x]) := by
  obtain ⟨b, o, rfl, hlt, hc⟩ := hs (by simp)
  obtain ⟨vi, vo, h1, h2, ⟨A1, c1, rfl, g1⟩, ⟨A2, c2, rfl, g2⟩⟩ := hc 0 x rfl
  simp only [Nat.zero_mul, Nat.add_zero] at h1 h2
  have S1 := Lib.hid (show SV w _ x.i from ⟨A1, c1, rfl, g1⟩)
  have S2 := Lib.hid (show SV w _ x.o from ⟨A2, c2, rfl, g2⟩)
  have HX := Lib.hid hx
  clear hs hc g1 g2 hx
  go_enter Tryz.func36, Tryz.ntmps36
  go_wp2
  refine bodyPost_ret (v := .agg #[.slice A1 x.i.length c1, .slice A2 x.o.length c2]) ?_ rfl ⟨⟨x, _, _, rfl, ?_, ?_, joins_one HX.out⟩, ?_⟩
  · rw [results_cell_only rfl]; go_simp
  · exact S1.out.next ((Below.refl _ w).alloc (Nat.le_refl _) _)
  · exact S2.out.next ((Below.refl _ w).alloc (Nat.le_refl _) _)
  · exact (Below.refl _ w).alloc (Nat.le_refl _) _
set_option maxRecDepth 100000 in
set_option maxHeartbeats 4000000 in
theorem join_more (E : List Int) (hE : E.length ≤ 6000) (A : Option Addr) (c : Nat) (ts : List TurnP) (w : World) (hl : 2 ≤ ts.length) (hl2 : ts.length ≤ 100000) (hlc : ts.length ≤ c) (hcm : c ≤ maxLen) (hs : SlT w A ts)
    (ih : ∀ (A' : Option Addr) (c' : Nat) (ts' : List TurnP) (w' : World), 0 < ts'.length → ts'.length < ts.length → ts'.length ≤ c' → c' ≤ maxLen → SlT w' A' ts' → (∀ x ∈ ts', TurnOk E x) → Calls Tryz.prog 36 #[.slice A' ts'.length c'] w' (JoinEnd E w' ts'))
    (hok : ∀ x ∈ ts, TurnOk E x) :
    Calls Tryz.prog 36 #[.slice A ts.length c] w (JoinEnd E w ts) := by
  have hne1 : ((ts.length : Int) == 1) = false := by rw [beq_eq_false_iff_ne]; omega
  have hk0 : 0 < ts.length / 2 ∧ ts.length / 2 < ts.length := by omega
  have HS := Lib.hid hs
  have HOK := Lib.hid hok
  clear hs hok
  go_enter Tryz.func36, Tryz.ntmps36
  go_upto_region 4 with (fail)
  have TB0 : Hid (TBx (w.alloc (.cells #[.slice none 0 0, .slice none 0 0] 80)) w.heap.size (.slice none 0 0) (.slice none 0 0)) := heap_alloc_new w _
  have hB1 : Below w.heap.size w (w.alloc (.cells #[.slice none 0 0, .slice none 0 0] 80)) := (Below.refl _ _).alloc (Nat.le_refl _) _
  obtain ⟨w1, hw1⟩ : ∃ w1, w.alloc (.cells #[.slice none 0 0, .slice none 0 0] 80) = w1 := ⟨_, rfl⟩
  rw [hw1] at TB0 hB1 ⊢
  have HB1 := Lib.hid hB1
  have HS1 := Lib.hid (HS.out.next (Below.mono hB1 (Nat.le_refl _)))
  clear hw1 hB1 HS
  have hsl := fun W => sliceT_to A ts.length c (ts.length / 2) (by omega) W
  have hsl2 := fun W => sliceT_from A ts.length c (ts.length / 2) (by omega) hlc W
  simp only [Int.natCast_ediv, Int.cast_ofNat_Int] at hsl hsl2
  refine wp_region_held_drew (S := fun _ => True) (by kernel_rfl) trivial (fun _ => ?_)
  refine takeV 0 (some 13) ((.slice A ts.length c)) rfl rfl (by kernel_rfl) (by kernel_rfl) (by kernel_rfl) (fun _ _ _ h => h) (by rfl) (by (intro _w _hSw; (try dsimp only at _hSw); go_simp)) (by assumption) ?_
  simp only [Act.put, List.setIfInBounds_toArray, List.set_cons_zero, List.set_cons_succ]
  refine takeV 1 (some 14) ((.int .i64 ((ts.length : Int) / 2))) rfl rfl (by kernel_rfl) (by kernel_rfl) (by kernel_rfl) (fun _ _ _ h => h) (by rfl) (by (intro _w _hSw; (try dsimp only at _hSw); go_simp)) (by assumption) ?_
  simp only [Act.put, List.setIfInBounds_toArray, List.set_cons_zero, List.set_cons_succ]
  refine takeV 2 (some 15) ((.slice A (ts.length / 2) c)) rfl rfl (by kernel_rfl) (by kernel_rfl) (by kernel_rfl) (fun _ _ _ h => h) (by rfl) (by (intro _w _hSw; (try dsimp only at _hSw); go_simp)) (by assumption) ?_
  simp only [Act.put, List.setIfInBounds_toArray, List.set_cons_zero, List.set_cons_succ]
  refine takeV 4 (some 17) ((.slice A ts.length c)) rfl rfl (by kernel_rfl) (by kernel_rfl) (by kernel_rfl) (fun _ _ _ h => h) (by rfl) (by (intro _w _hSw; (try dsimp only at _hSw); go_simp)) (by assumption) ?_
  simp only [Act.put, List.setIfInBounds_toArray, List.set_cons_zero, List.set_cons_succ]
  refine takeV 5 (some 18) ((.int .i64 ((ts.length : Int) / 2))) rfl rfl (by kernel_rfl) (by kernel_rfl) (by kernel_rfl) (fun _ _ _ h => h) (by rfl) (by (intro _w _hSw; (try dsimp only at _hSw); go_simp)) (by assumption) ?_
  simp only [Act.put, List.setIfInBounds_toArray, List.set_cons_zero, List.set_cons_succ]
  refine takeV 6 (some 19) ((.slice (cutT A c (ts.length / 2)) (ts.length - ts.length / 2) (c - ts.length / 2))) rfl rfl (by kernel_rfl) (by kernel_rfl) (by kernel_rfl) (fun _ _ _ h => h) (by rfl) (by (intro _w _hSw; (try dsimp only at _hSw); go_simp)) (by assumption) ?_
  simp only [Act.put, List.setIfInBounds_toArray, List.set_cons_zero, List.set_cons_succ]
  refine callV 3 rfl (by kernel_rfl) (by rfl) (fun K hK => ?_)
  go_simp
  have hi1 := ih A c (ts.take (ts.length / 2)) w1.drew (by rw [List.length_take]; omega) (by rw [List.length_take]; omega) (by rw [List.length_take]; omega) hcm (HS1.out.take _ |>.next (below_ind (Below.refl _ w1) 1)) (fun x hx => HOK.out x (List.mem_of_mem_take hx))
  rw [show (ts.take (ts.length / 2)).length = ts.length / 2 by rw [List.length_take]; omega] at hi1
  go_at_call 36
  refine hi1.mono ?_
  rintro e w3 ⟨⟨z1, vi, vo, rfl, ⟨A1, c1, rfl, g1⟩, ⟨A2, c2, rfl, g2⟩, hj1⟩, hb3⟩
  have hb3' : Below w1.heap.size w1 w3 := (below_ind (Below.refl _ w1) 1).trans hb3
  refine hK.out _ _ trivial (fun _ => ?_)
  have V1 := Lib.hid (show SV w3 _ z1.i from ⟨A1, c1, rfl, g1⟩)
  have V2 := Lib.hid (show SV w3 _ z1.o from ⟨A2, c2, rfl, g2⟩)
  have HJ1 := Lib.hid hj1
  have HS3 := Lib.hid (HS1.out.next hb3')
  have TB3 := Lib.hid (TB0.out.next hb3')
  have HB3 := Lib.hid (HB1.out.trans (hb3'.mono HB1.out.size))
  have HB13 := Lib.hid hb3'
  clear hK K hb3 hb3' g1 g2 hj1 hi1 HS1 TB0
  try simp only [Act.put, List.setIfInBounds_toArray, List.set_cons_zero, List.set_cons_succ]
  refine callV 7 rfl (by kernel_rfl) (by rfl) (fun K hK => ?_)
  go_simp
  have hi2 := ih (cutT A c (ts.length / 2)) (c - ts.length / 2) (ts.drop (ts.length / 2)) w3 (by rw [List.length_drop]; omega) (by rw [List.length_drop]; omega) (by rw [List.length_drop]; omega) (by omega) (HS3.out.drop _ hlc) (fun x hx => HOK.out x (List.mem_of_mem_drop hx))
  rw [List.length_drop] at hi2
  go_at_call 36
  refine hi2.mono ?_
  rintro e w4 ⟨⟨z2, vi2, vo2, rfl, ⟨A3, c3, rfl, g3⟩, ⟨A4, c4, rfl, g4⟩, hj2⟩, hb4⟩
  refine hK.out _ _ trivial (fun _ => ?_)
  have V3 := Lib.hid (show SV w4 _ z2.i from ⟨A3, c3, rfl, g3⟩)
  have V4 := Lib.hid (show SV w4 _ z2.o from ⟨A4, c4, rfl, g4⟩)
  have HJ2 := Lib.hid hj2
  have U1 := Lib.hid (V1.out.next hb4)
  have U2 := Lib.hid (V2.out.next hb4)
  have TB4 := Lib.hid (TB3.out.next hb4)
  have HB4 := Lib.hid (HB3.out.trans (hb4.mono HB3.out.size))
  have HB34 := Lib.hid hb4
  clear hK K hb4 g3 g4 hj2 hi2 HS3 TB3 V1 V2
  try simp only [Act.put, List.setIfInBounds_toArray, List.set_cons_zero, List.set_cons_succ]
  refine callV 8 rfl (by kernel_rfl) (by rfl) (fun K hK => ?_)
  go_simp
  go_at_call 66
  refine (then_any E hE z1 z2 _ _ _ _ w4 HJ1.out.1 HJ2.out.1 U1.out U2.out V3.out V4.out).mono ?_
  rintro e w5 ⟨⟨z, vi3, vo3, rfl, ⟨A5, c5, rfl, g5⟩, ⟨A6, c6, rfl, g6⟩, hz, hzi, hzo⟩, hb5⟩
  refine hK.out _ _ trivial (fun _ => ?_)
  have V5 := Lib.hid (show SV w5 _ z.i from ⟨A5, c5, rfl, g5⟩)
  have V6 := Lib.hid (show SV w5 _ z.o from ⟨A6, c6, rfl, g6⟩)
  have HJ := Lib.hid (joins_then HJ1.out HJ2.out hz.i hz.o hz.ik hz.ok hzi hzo)
  rw [List.take_append_drop] at HJ
  have TB5 := Lib.hid (TB4.out.next hb5)
  have HB5 := Lib.hid (HB4.out.trans (hb5.mono HB4.out.size))
  have HB45 := Lib.hid hb5
  clear hK K hb5 g5 g6 hz hzi hzo TB4 U1 U2 V3 V4
  try simp only [Act.put, List.setIfInBounds_toArray, List.set_cons_zero, List.set_cons_succ]
  have r0 := TB5.out.cell 0
  have r1 := TB5.out.cell 1
  have rf0 : w5.frozen? ⟨w.heap.size, 0, none⟩ = false := by have h := TB5.out; unfold TBx at h; simp [World.frozen?, h]
  have rf1 : w5.frozen? ⟨w.heap.size, 1, none⟩ = false := by have h := TB5.out; unfold TBx at h; simp [World.frozen?, h]
  simp at r0 r1
  refine callV 9 rfl (by kernel_rfl) (by rfl) (fun K hK => ?_)
  go_simp
  refine hK.out _ _ trivial (fun _ => ?_)
  clear hK K
  try simp only [Act.put, List.setIfInBounds_toArray, List.set_cons_zero, List.set_cons_succ]
  refine wpAnyH_done (by kernel_rfl) ?_ _
  go_wp2
  refine bodyPost_ret (v := .agg #[.slice A5 z.i.length c5, .slice A6 z.o.length c6]) ?_ rfl ⟨⟨z, _, _, rfl, ?_, ?_, HJ.out⟩, ?_⟩
  · rw [results_cell_only rfl]; go_simp
  · exact sv_set2 V5.out TB5.out
  · exact sv_set2 V6.out TB5.out
  · exact (HB5.out.setCell (p := ⟨w.heap.size, 0, none⟩) (Nat.le_refl _) _).setCell (p := ⟨w.heap.size, 1, none⟩) (Nat.le_refl _) _
theorem joined_any (E : List Int) (hE : E.length ≤ 6000) : ∀ (n : Nat) (A : Option Addr) (c : Nat) (ts : List TurnP) (w : World), ts.length ≤ n → 0 < ts.length → ts.length ≤ 100000 → ts.length ≤ c → c ≤ maxLen → SlT w A ts → (∀ x ∈ ts, TurnOk E x) →
    Calls Tryz.prog 36 #[.slice A ts.length c] w (JoinEnd E w ts)
  | 0, _, _, ts, _, h, h0, _, _, _, _, _ => by omega
  | n + 1, A, c, ts, w, h, h0, h1, h2, h3, hs, hok => by
    match ts, h, h0, h1, h2, hs, hok with
    | [], _, h0, _, _, _, _ => simp at h0
    | [x], _, _, _, _, hs, hok => exact join_one E A c x w hs (hok x (by simp))
    | x :: y :: r, h, _, h1, h2, hs, hok =>
      refine join_more E hE A c (x :: y :: r) w (by simp) h1 h2 h3 hs (fun A' c' ts' w' k0 k1 k2 k3 k4 k5 => ?_) hok
      exact joined_any E hE n A' c' ts' w' (by omega) k0 (by omega) k2 k3 k4 k5
end Go.Proofs.YthhkabbgghepbaaGreat
