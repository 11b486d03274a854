import Derived.StillTailTactics
import Derived.Test.YthdjlaombbeagaaGreatJFTurn
import Derived.Test.YthdjlaombbeagaaGreatJOArgs
import Derived.Shelf.RegionOpen
import Derived.RangeFuncNested
import Derived.Test.YthdjlaombbeagaaGreatJFLastP
/-
  CONTRACT: joined (turns joined by halves).
-/
namespace Go.Proofs.YthdjlaombbeagaaGreat
open Go.RowKit Go.Shelf

/-- a turn in a slice -/
def TnAt (W : World) (b o : Nat) (x : TurnP) : Prop := ∃ vi vo, W.cell? ⟨b, o, none⟩ = some vi ∧ W.cell? ⟨b, o + 1, none⟩ = some vo ∧ SV W vi x.i ∧ SV W vo x.o
def SlT (W : World) (A : Option Addr) (ts : List TurnP) : Prop := ts ≠ [] → ∃ b o, A = some ⟨b, o, none⟩ ∧ b < W.heap.size ∧ ∀ (j : Nat) (v : TurnP), ts[j]? = some v → TnAt W b (o + j * 2) v
theorem SlT.next {W W' : World} {A : Option Addr} {ts : List TurnP} (h : SlT W A ts) (hb : Below W.heap.size W W') : SlT W' A ts := fun hl => by
  obtain ⟨b, o, e, hlt, hc⟩ := h hl
  refine ⟨b, o, e, Nat.lt_of_lt_of_le hlt hb.size, fun j v hv => ?_⟩
  obtain ⟨vi, vo, h1, h2, h3, h4⟩ := hc j v hv
  exact ⟨vi, vo, (hb.cell (p := ⟨b, o + j * 2, none⟩) hlt).trans h1, (hb.cell (p := ⟨b, o + j * 2 + 1, none⟩) hlt).trans h2, h3.next hb, h4.next hb⟩
def cutT (A : Option Addr) (c k : Nat) : Option Addr := if c = k then A else A.map (·.add (k * 2))
theorem cutT_zero (A : Option Addr) (c : Nat) : cutT A c 0 = A := by
  unfold cutT
  split
  · rfl
  · cases A with
    | none => rfl
    | some a =>
      show some (a.add (0 * 2)) = some a
      rw [Nat.zero_mul]
      congr 1
theorem sliceT_from (A : Option Addr) (n c k : Nat) (hk : k ≤ n) (_hc : n ≤ c) (w : World) : (Instr.slice 55 (.slice A n c) (some (.int .i64 (k : Int))) none none).run Tryz.prog w = .ok (.slice (cutT A c k) (n - k) (c - k)) w := by
  have hT : Tryz.prog.underlying 55 = some (.slice (Tryz.prog.elem 55)) := by kernel_rfl
  have hS : (Go.sizeOf (Tryz.prog.elem 55)).run Tryz.prog w = .ok 2 w := by kernel_rfl
  rw [run_slice_l (w := w) 55 A n c hT .i64 (k : Int) (by omega) (by omega), hS]
  simp [Result.andThen, sliced, cutT]
theorem sliceT_to (A : Option Addr) (n c k : Nat) (hk : k ≤ c) (w : World) : (Instr.slice 55 (.slice A n c) none (some (.int .i64 (k : Int))) none).run Tryz.prog w = .ok (.slice A k c) w := by
  have hT : Tryz.prog.underlying 55 = some (.slice (Tryz.prog.elem 55)) := by kernel_rfl
  have hS : (Go.sizeOf (Tryz.prog.elem 55)).run Tryz.prog w = .ok 2 w := by kernel_rfl
  rw [run_slice_h (w := w) 55 A n c hT .i64 (k : Int) (by omega) (by omega), hS]
  have := cutT_zero A c
  unfold cutT at this
  simp [Result.andThen, sliced]
  simpa using this
theorem SlT.take {W : World} {A : Option Addr} {ts : List TurnP} (h : SlT W A ts) (k : Nat) : SlT W A (ts.take k) := fun hl => by
  obtain ⟨b, o, e, hlt, hc⟩ := h (fun e => hl (by rw [e]; simp))
  refine ⟨b, o, e, hlt, fun j v hv => hc j v ?_⟩
  rw [List.getElem?_take] at hv
  split at hv
  · exact hv
  · cases hv
theorem SlT.drop {W : World} {A : Option Addr} {ts : List TurnP} (h : SlT W A ts) {c : Nat} (k : Nat) (hlc : ts.length ≤ c) : SlT W (cutT A c k) (ts.drop k) := fun hl => by
  have hk : k < ts.length := by
    rcases Nat.lt_or_ge k ts.length with h1 | h1
    · exact h1
    · exact absurd (List.drop_of_length_le h1) hl
  obtain ⟨b, o, rfl, hlt, hc⟩ := h (fun e => by rw [e] at hk; exact absurd hk (Nat.not_lt_zero _))
  unfold cutT
  rw [if_neg (by omega)]
  refine ⟨b, o + k * 2, by show some (Addr.add ⟨b, o, none⟩ (k * 2)) = _; rw [addI], hlt, fun j v hv => ?_⟩
  rw [List.getElem?_drop] at hv
  have := hc (k + j) v hv
  rwa [show o + (k + j) * 2 = o + k * 2 + j * 2 from by omega] at this
/-- What joined answers. -/
def JoinEnd (E : List Int) (w : World) (ts : List TurnP) (e : Ending) (w' : World) : Prop := (∃ z vi vo, e = .returned (.agg #[vi, vo]) ∧ SV w' vi z.i ∧ SV w' vo z.o ∧ Joins E ts z) ∧ Below w.heap.size w w'

set_option maxRecDepth 100000 in
set_option maxHeartbeats 2000000 in
theorem join_one (E : List Int) (A : Option Addr) (c : Nat) (x : TurnP) (w : World) (hs : SlT w A [x]) (hx : TurnOk E x) :
    Calls Tryz.prog 22 #[.slice A 1 c] w (JoinEnd E w [x]) := by
  obtain ⟨b, o, rfl, hlt, hc⟩ := hs (by simp)
  obtain ⟨vi, vo, h1, h2, ⟨A1, c1, rfl, g1⟩, ⟨A2, c2, rfl, g2⟩⟩ := hc 0 x rfl
  simp only [Nat.zero_mul, Nat.add_zero] at h1 h2
  have S1 := Lib.hid (show SV w _ x.i from ⟨A1, c1, rfl, g1⟩)
  have S2 := Lib.hid (show SV w _ x.o from ⟨A2, c2, rfl, g2⟩)
  have HX := Lib.hid hx
  clear hs hc g1 g2 hx
  go_enter Tryz.func22, Tryz.ntmps22
  go_wp2
  refine bodyPost_ret (v := .agg #[.slice A1 x.i.length c1, .slice A2 x.o.length c2]) ?_ rfl ⟨⟨x, _, _, rfl, ?_, ?_, joins_one HX.out⟩, ?_⟩
  · rw [results_cell_only rfl]; go_simp
  · exact S1.out.next ((Below.refl _ w).alloc (Nat.le_refl _) _)
  · exact S2.out.next ((Below.refl _ w).alloc (Nat.le_refl _) _)
  · exact (Below.refl _ w).alloc (Nat.le_refl _) _
set_option maxRecDepth 100000 in
set_option maxHeartbeats 4000000 in
theorem join_more (E : List Int) (hE : E.length ≤ 6000) (A : Option Addr) (c : Nat) (ts : List TurnP) (w : World) (hl : 2 ≤ ts.length) (hl2 : ts.length ≤ 100000) (hlc : ts.length ≤ c) (hcm : c ≤ maxLen) (hs : SlT w A ts)
    (ih : ∀ (A' : Option Addr) (c' : Nat) (ts' : List TurnP) (w' : World), 0 < ts'.length → ts'.length < ts.length → ts'.length ≤ c' → c' ≤ maxLen → SlT w' A' ts' → (∀ x ∈ ts', TurnOk E x) → Calls Tryz.prog 22 #[.slice A' ts'.length c'] w' (JoinEnd E w' ts'))
    (hok : ∀ x ∈ ts, TurnOk E x) :
    Calls Tryz.prog 22 #[.slice A ts.length c] w (JoinEnd E w ts) := by
  have hne1 : ((ts.length : Int) == 1) = false := by rw [beq_eq_false_iff_ne]; omega
  have hk0 : 0 < ts.length / 2 ∧ ts.length / 2 < ts.length := by omega
  have HS := Lib.hid hs
  have HOK := Lib.hid hok
  clear hs hok
  go_enter Tryz.func22, Tryz.ntmps22
  go_upto_region 4 with (fail)
  have TB0 : Hid (TBx (w.alloc (.cells #[.slice none 0 0, .slice none 0 0] 62)) w.heap.size (.slice none 0 0) (.slice none 0 0)) := heap_alloc_new w _
  have hB1 : Below w.heap.size w (w.alloc (.cells #[.slice none 0 0, .slice none 0 0] 62)) := (Below.refl _ _).alloc (Nat.le_refl _) _
  obtain ⟨w1, hw1⟩ : ∃ w1, w.alloc (.cells #[.slice none 0 0, .slice none 0 0] 62) = w1 := ⟨_, rfl⟩
  rw [hw1] at TB0 hB1 ⊢
  have HB1 := Lib.hid hB1
  have HS1 := Lib.hid (HS.out.next (Below.mono hB1 (Nat.le_refl _)))
  clear hw1 hB1 HS
  have hsl := fun W => sliceT_to A ts.length c (ts.length / 2) (by omega) W
  have hsl2 := fun W => sliceT_from A ts.length c (ts.length / 2) (by omega) hlc W
  simp only [Int.natCast_ediv, Int.cast_ofNat_Int] at hsl hsl2
  refine wp_region_held_drew (S := fun _ => True) (by kernel_rfl) trivial (fun _ => ?_)
  refine takeQ 0 13 ((.slice A ts.length c)) ?_
  simp only [Act.put, List.setIfInBounds_toArray, List.set_cons_zero, List.set_cons_succ]
  refine takeQ 1 14 ((.int .i64 ((ts.length : Int) / 2))) ?_
  simp only [Act.put, List.setIfInBounds_toArray, List.set_cons_zero, List.set_cons_succ]
  refine takeQ 2 15 ((.slice A (ts.length / 2) c)) ?_
  simp only [Act.put, List.setIfInBounds_toArray, List.set_cons_zero, List.set_cons_succ]
  refine takeQ 4 17 ((.slice A ts.length c)) ?_
  simp only [Act.put, List.setIfInBounds_toArray, List.set_cons_zero, List.set_cons_succ]
  refine takeQ 5 18 ((.int .i64 ((ts.length : Int) / 2))) ?_
  simp only [Act.put, List.setIfInBounds_toArray, List.set_cons_zero, List.set_cons_succ]
  refine takeQ 6 19 ((.slice (cutT A c (ts.length / 2)) (ts.length - ts.length / 2) (c - ts.length / 2))) ?_
  simp only [Act.put, List.setIfInBounds_toArray, List.set_cons_zero, List.set_cons_succ]
  refine callV 3 rfl (by kernel_rfl) (by rfl) (fun K hK => ?_)
  go_simp
  have hi1 := ih A c (ts.take (ts.length / 2)) w1.drew (by rw [List.length_take]; omega) (by rw [List.length_take]; omega) (by rw [List.length_take]; omega) hcm (HS1.out.take _ |>.next (below_ind (Below.refl _ w1) 1)) (fun x hx => HOK.out x (List.mem_of_mem_take hx))
  rw [show (ts.take (ts.length / 2)).length = ts.length / 2 by rw [List.length_take]; omega] at hi1
  go_at_call 22
  refine hi1.mono ?_
  rintro e w3 ⟨⟨z1, vi, vo, rfl, ⟨A1, c1, rfl, g1⟩, ⟨A2, c2, rfl, g2⟩, hj1⟩, hb3⟩
  have hb3' : Below w1.heap.size w1 w3 := (below_ind (Below.refl _ w1) 1).trans hb3
  refine hK.out _ _ trivial (fun _ => ?_)
  have V1 := Lib.hid (show SV w3 _ z1.i from ⟨A1, c1, rfl, g1⟩)
  have V2 := Lib.hid (show SV w3 _ z1.o from ⟨A2, c2, rfl, g2⟩)
  have HJ1 := Lib.hid hj1
  have HS3 := Lib.hid (HS1.out.next hb3')
  have TB3 := Lib.hid (TB0.out.next hb3')
  have HB3 := Lib.hid (HB1.out.trans (hb3'.mono HB1.out.size))
  have HB13 := Lib.hid hb3'
  clear hK K hb3 hb3' g1 g2 hj1 hi1 HS1 TB0
  try simp only [Act.put, List.setIfInBounds_toArray, List.set_cons_zero, List.set_cons_succ]
  refine callV 7 rfl (by kernel_rfl) (by rfl) (fun K hK => ?_)
  go_simp
  have hi2 := ih (cutT A c (ts.length / 2)) (c - ts.length / 2) (ts.drop (ts.length / 2)) w3 (by rw [List.length_drop]; omega) (by rw [List.length_drop]; omega) (by rw [List.length_drop]; omega) (by omega) (HS3.out.drop _ hlc) (fun x hx => HOK.out x (List.mem_of_mem_drop hx))
  rw [List.length_drop] at hi2
  go_at_call 22
  refine hi2.mono ?_
  rintro e w4 ⟨⟨z2, vi2, vo2, rfl, ⟨A3, c3, rfl, g3⟩, ⟨A4, c4, rfl, g4⟩, hj2⟩, hb4⟩
  refine hK.out _ _ trivial (fun _ => ?_)
  have V3 := Lib.hid (show SV w4 _ z2.i from ⟨A3, c3, rfl, g3⟩)
  have V4 := Lib.hid (show SV w4 _ z2.o from ⟨A4, c4, rfl, g4⟩)
  have HJ2 := Lib.hid hj2
  have U1 := Lib.hid (V1.out.next hb4)
  have U2 := Lib.hid (V2.out.next hb4)
  have TB4 := Lib.hid (TB3.out.next hb4)
  have HB4 := Lib.hid (HB3.out.trans (hb4.mono HB3.out.size))
  have HB34 := Lib.hid hb4
  clear hK K hb4 g3 g4 hj2 hi2 HS3 TB3 V1 V2
  try simp only [Act.put, List.setIfInBounds_toArray, List.set_cons_zero, List.set_cons_succ]
  refine callV 8 rfl (by kernel_rfl) (by rfl) (fun K hK => ?_)
  go_simp
  go_at_call 45
  refine (then_any E hE z1 z2 _ _ _ _ w4 HJ1.out.1 HJ2.out.1 U1.out U2.out V3.out V4.out).mono ?_
  rintro e w5 ⟨⟨z, vi3, vo3, rfl, ⟨A5, c5, rfl, g5⟩, ⟨A6, c6, rfl, g6⟩, hz, hzi, hzo⟩, hb5⟩
  refine hK.out _ _ trivial (fun _ => ?_)
  have V5 := Lib.hid (show SV w5 _ z.i from ⟨A5, c5, rfl, g5⟩)
  have V6 := Lib.hid (show SV w5 _ z.o from ⟨A6, c6, rfl, g6⟩)
  have HJ := Lib.hid (joins_then HJ1.out HJ2.out hz.i hz.o hz.ik hz.ok hzi hzo)
  rw [List.take_append_drop] at HJ
  have TB5 := Lib.hid (TB4.out.next hb5)
  have HB5 := Lib.hid (HB4.out.trans (hb5.mono HB4.out.size))
  have HB45 := Lib.hid hb5
  clear hK K hb5 g5 g6 hz hzi hzo TB4 U1 U2 V3 V4
  try simp only [Act.put, List.setIfInBounds_toArray, List.set_cons_zero, List.set_cons_succ]
  have r0 := TB5.out.cell 0
  have r1 := TB5.out.cell 1
  have rf0 : w5.frozen? ⟨w.heap.size, 0, none⟩ = false := by have h := TB5.out; unfold TBx at h; simp [World.frozen?, h]
  have rf1 : w5.frozen? ⟨w.heap.size, 1, none⟩ = false := by have h := TB5.out; unfold TBx at h; simp [World.frozen?, h]
  simp at r0 r1
  refine callV 9 rfl (by kernel_rfl) (by rfl) (fun K hK => ?_)
  go_simp
  refine hK.out _ _ trivial (fun _ => ?_)
  clear hK K
  try simp only [Act.put, List.setIfInBounds_toArray, List.set_cons_zero, List.set_cons_succ]
  refine wpAnyH_done (by kernel_rfl) ?_ _
  go_wp2
  refine bodyPost_ret (v := .agg #[.slice A5 z.i.length c5, .slice A6 z.o.length c6]) ?_ rfl ⟨⟨z, _, _, rfl, ?_, ?_, HJ.out⟩, ?_⟩
  · rw [results_cell_only rfl]; go_simp
  · exact sv_set2 V5.out TB5.out
  · exact sv_set2 V6.out TB5.out
  · exact (HB5.out.setCell (p := ⟨w.heap.size, 0, none⟩) (Nat.le_refl _) _).setCell (p := ⟨w.heap.size, 1, none⟩) (Nat.le_refl _) _
theorem joined_any (E : List Int) (hE : E.length ≤ 6000) : ∀ (n : Nat) (A : Option Addr) (c : Nat) (ts : List TurnP) (w : World), ts.length ≤ n → 0 < ts.length → ts.length ≤ 100000 → ts.length ≤ c → c ≤ maxLen → SlT w A ts → (∀ x ∈ ts, TurnOk E x) →
    Calls Tryz.prog 22 #[.slice A ts.length c] w (JoinEnd E w ts)
  | 0, _, _, ts, _, h, h0, _, _, _, _, _ => by omega
  | n + 1, A, c, ts, w, h, h0, h1, h2, h3, hs, hok => by
    match ts, h, h0, h1, h2, hs, hok with
    | [], _, h0, _, _, _, _ => simp at h0
    | [x], _, _, _, _, hs, hok => exact join_one E A c x w hs (hok x (by simp))
    | x :: y :: r, h, _, h1, h2, hs, hok =>
      refine join_more E hE A c (x :: y :: r) w (by simp) h1 h2 h3 hs (fun A' c' ts' w' k0 k1 k2 k3 k4 k5 => ?_) hok
      exact joined_any E hE n A' c' ts' w' (by omega) k0 (by omega) k2 k3 k4 k5
end Go.Proofs.YthdjlaombbeagaaGreat

/-
  FRAMES of the fold: the iterators as loops see them; facts and turns in rows; what a round of the fold leaves.
-/
namespace Go.Proofs.YthdjlaombbeagaaGreat
open Go.RowKit Go.Shelf

theorem runI_stops (n B Bl Bk : Nat) (A : Option Addr) (c : Nat) (l : List Dat) (w : World) (hB : B ≤ w.heap.size) (hlc : l.length ≤ c) (hcm : c ≤ maxLen) (hl : l.length ≤ 100000) (hs : SlD w B A l) (hb : Boxed w Bl 22 (.slice A l.length c)) (hk : Boxed w Bk 59 (.func (.func 20) #[] #[])) :
    SeqStopsK Fence.wide n Tryz.prog 42 #[.pointer (some ⟨Bl, 0, none⟩), .pointer (some ⟨Bk, 0, none⟩)] (encI l A c) (KpR B A l Bk 59 (.func (.func 20) #[] #[])) (fun ys => ys = allN _) (fun q => q <+: allN _) (runsL (fun d : Dat => d.t) l).length w := fun lp J Jx W hW hA _ hY h0' => by
  have hH : HandsRI l A c B Bk lp (runsL (fun d : Dat => d.t) l).length J Jx := fun m pre x W1 hj hl => YieldAt.anyDepth m (hY pre x W1 hj hl)
  refine (runI_in lp B Bl Bk W.heap.size A c l J Jx hA hH n W (Nat.le_trans hB hW.size) hlc hcm hl (hs.next hW hB) (Boxed.cell (show Boxed W Bl _ _ from (hW.block Bl hb.lt).trans hb)) ((hW.block Bk hk.lt).trans hk) h0').mono ?_
  rintro e W' ⟨hv, hj | ⟨q, hq, hx⟩⟩
  · exact ⟨hv, .inl ⟨_, rfl, hj⟩⟩
  · exact ⟨hv, .inr ⟨q, hq, hx⟩⟩

theorem runT_stops (n B Bl Bk : Nat) (A : Option Addr) (c : Nat) (l : List Dat) (w : World) (hB : B ≤ w.heap.size) (hlc : l.length ≤ c) (hcm : c ≤ maxLen) (hl : l.length ≤ 100000) (hs : SlD w B A l) (hb : Boxed w Bl 22 (.slice A l.length c)) (hk : Boxed w Bk 54 (.func (.func 18) #[] #[])) :
    SeqStopsK Fence.wide n Tryz.prog 36 #[.pointer (some ⟨Bl, 0, none⟩), .pointer (some ⟨Bk, 0, none⟩)] (encT l A c) (KpR B A l Bk 54 (.func (.func 18) #[] #[])) (fun ys => ys = allN _) (fun q => q <+: allN _) (runsL triD l).length w := fun lp J Jx W hW hA _ hY h0' => by
  have hH : HandsRT l A c B Bk lp (runsL triD l).length J Jx := fun m pre x W1 hj hl => YieldAt.anyDepth m (hY pre x W1 hj hl)
  refine (runT_in lp B Bl Bk W.heap.size A c l J Jx hA hH n W (Nat.le_trans hB hW.size) hlc hcm hl (hs.next hW hB) (Boxed.cell (show Boxed W Bl _ _ from (hW.block Bl hb.lt).trans hb)) ((hW.block Bk hk.lt).trans hk) h0').mono ?_
  rintro e W' ⟨hv, hj | ⟨q, hq, hx⟩⟩
  · exact ⟨hv, .inl ⟨_, rfl, hj⟩⟩
  · exact ⟨hv, .inr ⟨q, hq, hx⟩⟩

/-- a fact's cells, its spans' value beside it -/
def cellsF (p : FactP × Value) : List Value := [.int .i64 p.1.e, .int .i64 p.1.a, .int .i64 p.1.k, .int .i64 p.1.m, .string p.1.s, p.2]
def cellsT (p : TurnP × (Value × Value)) : List Value := [p.2.1, p.2.2]
/-- a row of facts that the call has to itself -/
def OwnF (W : World) (B : Nat) (v : Value) (ps : List (FactP × Value)) : Prop := W.ownsRow B 67 6 v ps.length (ps.flatMap cellsF) ∧ ∀ p ∈ ps, SV W p.2 p.1.l
/-- a row of turns that the call has to itself -/
def OwnT (W : World) (B : Nat) (v : Value) (ps : List (TurnP × (Value × Value))) : Prop := W.ownsRow B 62 2 v ps.length (ps.flatMap cellsT) ∧ ∀ p ∈ ps, SV W p.2.1 p.1.i ∧ SV W p.2.2 p.1.o
theorem SV.off {W W' : World} {v : Value} {l : List Sp} {row : Option Nat} (h : SV W v l) (hg : W.grownBy W' row) (hr : ∀ r, row = some r → ∀ cs fr, W.heap[r]? ≠ some (.cells cs 88 fr)) : SV W' v l := by
  obtain ⟨A, c, e, h1, h2, h3, h4⟩ := h
  by_cases hl : l = []
  · exact ⟨A, c, e, fun h => absurd hl h, h2, h3, fun h => absurd hl h⟩
  · obtain ⟨b, o, cs, fr, eb, hc⟩ := h4 hl
    have hlt := (Array.getElem?_eq_some_iff.1 hc).1
    have hb : W'.heap[b]? = W.heap[b]? := hg.block b hlt (fun e => hr b e.symm cs fr hc)
    refine ⟨A, c, e, fun _ => ?_, h2, h3, fun _ => ⟨b, o, cs, fr, eb, hb.trans hc⟩⟩
    obtain ⟨b', o', e', hlt', hp⟩ := h1 hl
    rw [eb] at e'
    cases e'
    have hcell : ∀ i, W'.cell? ⟨b, i, none⟩ = W.cell? ⟨b, i, none⟩ := fun i => World.cell?_of_block (w := W) (a := ⟨b, i, none⟩) hb
    exact ⟨b, o, eb, Nat.lt_of_lt_of_le hlt hg.size, fun j q hq => ⟨(hcell _).trans (hp j q hq).c0, (hcell _).trans (hp j q hq).c1⟩⟩
theorem SV.other {W W' : World} {B size n : Nat} {t : TypeId} {v u : Value} {xs : List Value} {l : List Sp} (h : SV W u l) (hr : W.ownsRow B t size v n xs) (ht : t ≠ 88) (hg : W.grownBy W' v.ownBlock) : SV W' u l := by
  refine h.off hg fun r e cs fr hc => ?_
  rcases hr.2 with ⟨rfl, _⟩ | ⟨g', cap', cur', rfl, _, hgb', _⟩
  · cases e
  · have e2 : g' = r := by injection e
    subst e2
    rw [hc] at hgb'
    injection hgb' with hgb'
    injection hgb' with _ h2 _
    exact ht h2.symm
theorem OwnF.kept {W W' : World} {B : Nat} {v : Value} {ps : List (FactP × Value)} {row : Option Nat} (h : OwnF W B v ps) (hg : W.grownBy W' row) (hr : ∀ r, row = some r → ∃ o : Obj, W.heap[r]? = some o ∧ o.isCells = false) : OwnF W' B v ps := by
  refine ⟨World.ownsRow.kept h.1 hg ?_, fun p hp => (h.2 p hp).off hg (fun r e cs fr hc => by obtain ⟨o, ho, hn⟩ := hr r e; rw [hc] at ho; cases ho; cases hn)⟩
  rcases h.1.2 with ⟨rfl, _⟩ | ⟨g, cap, cur, rfl, _, hgb, _⟩
  · exact .inl rfl
  · refine .inr (fun e => ?_)
    obtain ⟨o, ho, hc⟩ := hr g e.symm
    rw [hgb] at ho; cases ho; cases hc
theorem OwnT.kept {W W' : World} {B : Nat} {v : Value} {ps : List (TurnP × (Value × Value))} {row : Option Nat} (h : OwnT W B v ps) (hg : W.grownBy W' row) (hr : ∀ r, row = some r → ∃ o : Obj, W.heap[r]? = some o ∧ o.isCells = false) : OwnT W' B v ps := by
  refine ⟨World.ownsRow.kept h.1 hg ?_, fun p hp => ⟨(h.2 p hp).1.off hg (fun r e cs fr hc => by obtain ⟨o, ho, hn⟩ := hr r e; rw [hc] at ho; cases ho; cases hn), (h.2 p hp).2.off hg (fun r e cs fr hc => by obtain ⟨o, ho, hn⟩ := hr r e; rw [hc] at ho; cases ho; cases hn)⟩⟩
  rcases h.1.2 with ⟨rfl, _⟩ | ⟨g, cap, cur, rfl, _, hgb, _⟩
  · exact .inl rfl
  · refine .inr (fun e => ?_)
    obtain ⟨o, ho, hc⟩ := hr g e.symm
    rw [hgb] at ho; cases ho; cases hc
theorem grown_below {W W' : World} (hb : Below W.heap.size W W') : W.grownBy W' none := ⟨hb.os, hb.tape, hb.output, hb.size, fun k hk _ => hb.block k hk⟩
theorem OwnF.next {W W' : World} {B : Nat} {v : Value} {ps : List (FactP × Value)} (h : OwnF W B v ps) (hb : Below W.heap.size W W') : OwnF W' B v ps := h.kept (grown_below hb) (fun r e => by cases e)
theorem OwnT.next {W W' : World} {B : Nat} {v : Value} {ps : List (TurnP × (Value × Value))} (h : OwnT W B v ps) (hb : Below W.heap.size W W') : OwnT W' B v ps := h.kept (grown_below hb) (fun r e => by cases e)
theorem ownF_nil (W : World) (B : Nat) : OwnF W B (.slice none 0 0) [] := ⟨World.ownsRow_nil _ _ _ _, fun _ h => by cases h⟩
theorem ownT_nil (W : World) (B : Nat) : OwnT W B (.slice none 0 0) [] := ⟨World.ownsRow_nil _ _ _ _, fun _ h => by cases h⟩
/-- a row of turns reads as turns -/
theorem OwnT.slT {W : World} {B : Nat} {v : Value} {ps : List (TurnP × (Value × Value))} (h : OwnT W B v ps) : ∃ A c, v = .slice A ps.length c ∧ SlT W A (ps.map (·.1)) ∧ ps.length ≤ c ∧ c ≤ maxLen := by
  rcases h.1.2 with ⟨rfl, h0⟩ | ⟨g, cap, cur, rfl, hgB, hgb, hlc, hcm, _⟩
  · have : ps = [] := List.length_eq_zero_iff.1 h0
    subst this
    exact ⟨none, 0, rfl, fun hl => absurd rfl hl, Nat.le_refl _, Nat.zero_le _⟩
  · refine ⟨_, _, rfl, fun _ => ⟨g, 0, rfl, (Array.getElem?_eq_some_iff.1 hgb).1, fun j x hx => ?_⟩, hlc, hcm⟩
    rw [List.getElem?_map] at hx
    obtain ⟨p, hp, rfl⟩ := Option.map_eq_some_iff.1 hx
    have hc : ∀ i u, (ps.flatMap cellsT)[j * 2 + i]? = some u → W.cell? ⟨g, 0 + j * 2 + i, none⟩ = some u := fun i u hu => by
      have := World.ownsRow.cells h.1 (g := g) rfl (j * 2 + i) u hu
      rw [addI] at this
      rw [show (0 : Nat) + j * 2 + i = 0 + (j * 2 + i) by omega]
      exact this
    have hfl : ∀ i, i < 2 → (ps.flatMap cellsT)[j * 2 + i]? = (cellsT p)[i]? := fun i hi => by
      rw [flatG (enc := cellsT) (k := 2) (fun _ => rfl) hi, hp]; rfl
    exact ⟨p.2.1, p.2.2, by have := hc 0 p.2.1 (by rw [hfl 0 (by decide)]; rfl); simpa using this, by have := hc 1 p.2.2 (by rw [hfl 1 (by decide)]; rfl); simpa using this, (h.2 p (List.mem_of_getElem? hp)).1, (h.2 p (List.mem_of_getElem? hp)).2⟩
/-- a fact in a slice -/
def FcAt (W : World) (b o : Nat) (f : FactP) : Prop := W.cell? ⟨b, o, none⟩ = some (.int .i64 f.e) ∧ W.cell? ⟨b, o + 1, none⟩ = some (.int .i64 f.a) ∧ W.cell? ⟨b, o + 2, none⟩ = some (.int .i64 f.k) ∧ W.cell? ⟨b, o + 3, none⟩ = some (.int .i64 f.m) ∧ W.cell? ⟨b, o + 4, none⟩ = some (.string f.s) ∧ ∃ sv, W.cell? ⟨b, o + 5, none⟩ = some sv ∧ SV W sv f.l
/-- a value that reads as facts -/
def FV (W : World) (v : Value) (fs : List FactP) : Prop := ∃ A c, v = .slice A fs.length c ∧ (fs ≠ [] → ∃ b o, A = some ⟨b, o, none⟩ ∧ b < W.heap.size ∧ ∀ (j : Nat) (f : FactP), fs[j]? = some f → FcAt W b (o + j * 6) f) ∧ fs.length ≤ c ∧ c ≤ maxLen
theorem FV.next {W W' : World} {v : Value} {fs : List FactP} (h : FV W v fs) (hb : Below W.heap.size W W') : FV W' v fs := by
  obtain ⟨A, c, e, hs, h2, h3⟩ := h
  refine ⟨A, c, e, fun hl => ?_, h2, h3⟩
  obtain ⟨b, o, e, hlt, hc⟩ := hs hl
  refine ⟨b, o, e, Nat.lt_of_lt_of_le hlt hb.size, fun j f hf => ?_⟩
  obtain ⟨c0, c1, c2, c3, c4, sv, c5, hsv⟩ := hc j f hf
  have up : ∀ i u, W.cell? ⟨b, i, none⟩ = some u → W'.cell? ⟨b, i, none⟩ = some u := fun i u h => (hb.cell (p := ⟨b, i, none⟩) hlt).trans h
  exact ⟨up _ _ c0, up _ _ c1, up _ _ c2, up _ _ c3, up _ _ c4, sv, up _ _ c5, hsv.next hb⟩
theorem OwnF.fv {W : World} {B : Nat} {v : Value} {ps : List (FactP × Value)} (h : OwnF W B v ps) : FV W v (ps.map (·.1)) := by
  rcases h.1.2 with ⟨rfl, h0⟩ | ⟨g, cap, cur, rfl, hgB, hgb, hlc, hcm, _⟩
  · have : ps = [] := List.length_eq_zero_iff.1 h0
    subst this
    exact ⟨none, 0, rfl, fun hl => absurd rfl hl, Nat.le_refl _, Nat.zero_le _⟩
  · refine ⟨_, _, by rw [List.length_map], fun _ => ⟨g, 0, rfl, (Array.getElem?_eq_some_iff.1 hgb).1, fun j x hx => ?_⟩, by rw [List.length_map]; exact hlc, hcm⟩
    rw [List.getElem?_map] at hx
    obtain ⟨p, hp, rfl⟩ := Option.map_eq_some_iff.1 hx
    have hc : ∀ i u, i < 6 → (cellsF p)[i]? = some u → W.cell? ⟨g, 0 + j * 6 + i, none⟩ = some u := fun i u hi hu => by
      have := World.ownsRow.cells h.1 (g := g) rfl (j * 6 + i) u (by rw [flatG (enc := cellsF) (k := 6) (fun _ => rfl) hi, hp]; exact hu)
      rw [addI] at this
      rw [show (0 : Nat) + j * 6 + i = 0 + (j * 6 + i) by omega]
      exact this
    exact ⟨hc 0 _ (by decide) rfl, hc 1 _ (by decide) rfl, hc 2 _ (by decide) rfl, hc 3 _ (by decide) rfl, hc 4 _ (by decide) rfl, p.2, hc 5 _ (by decide) rfl, h.2 p (List.mem_of_getElem? hp)⟩
theorem SV.alloc {W : World} {v : Value} {l : List Sp} (h : SV W v l) (o : Obj) : SV (W.alloc o) v l := h.next ((Below.refl _ W).alloc (Nat.le_refl _) o)
theorem SV.box {W : World} {v u u' : Value} {l : List Sp} {bx : Nat} {t : TypeId} (h : SV W v l) (hb : Boxed W bx t u) (ht : t ≠ 88) : SV (W.setCell ⟨bx, 0, none⟩ u') v l := by
  refine h.off (grownBy_setCell' W bx u') fun r e cs fr hc => ?_
  cases e
  rw [show W.heap[bx]? = _ from hb] at hc
  injection hc with hc
  injection hc with _ h2 _
  exact ht h2
theorem ownT_step {W w1 : World} {B b8 : Nat} {v v' u : Value} {ps : List (TurnP × (Value × Value))} {x : TurnP} {vi vo : Value} {tmp : Obj} (h : OwnT W B v ps) (hi : SV W vi x.i) (ho : SV W vo x.o) (hbx : Boxed w1 b8 55 u)
    (hown' : w1.ownsRow B 62 2 v' (ps.length + 1) (ps.flatMap cellsT ++ [vi, vo])) (hgrow : (W.alloc tmp).grownBy w1 v.ownBlock) : OwnT (w1.setCell ⟨b8, 0, none⟩ v') B v' (ps ++ [(x, (vi, vo))]) := by
  have hr := World.ownsRow.alloc h.1 tmp
  refine ⟨?_, fun p hp => ?_⟩
  · have := hown'.kept (grownBy_setCell' w1 b8 v') (.inr (hbx.not_row (by decide) hown').symm)
    simpa [cellsT] using this
  · have hp2 : SV W p.2.1 p.1.i ∧ SV W p.2.2 p.1.o := by
      rcases List.mem_append.1 hp with hp | hp
      · exact h.2 p hp
      · rw [List.mem_singleton.1 hp]; exact ⟨hi, ho⟩
    exact ⟨((hp2.1.alloc tmp).other hr (by decide) hgrow).box hbx (by decide), ((hp2.2.alloc tmp).other hr (by decide) hgrow).box hbx (by decide)⟩
theorem ownF_step {W w1 : World} {B b4 : Nat} {v v' u : Value} {ps : List (FactP × Value)} {f : FactP} {vi : Value} {tmp : Obj} (h : OwnF W B v ps) (hi : SV W vi f.l) (hbx : Boxed w1 b4 26 u)
    (hown' : w1.ownsRow B 67 6 v' (ps.length + 1) (ps.flatMap cellsF ++ cellsF (f, vi))) (hgrow : (W.alloc tmp).grownBy w1 v.ownBlock) : OwnF (w1.setCell ⟨b4, 0, none⟩ v') B v' (ps ++ [(f, vi)]) := by
  have hr := World.ownsRow.alloc h.1 tmp
  refine ⟨?_, fun p hp => ?_⟩
  · have := hown'.kept (grownBy_setCell' w1 b4 v') (.inr (hbx.not_row (by decide) hown').symm)
    simpa using this
  · have hp2 : SV W p.2 p.1.l := by
      rcases List.mem_append.1 hp with hp | hp
      · exact h.2 p hp
      · rw [List.mem_singleton.1 hp]; exact hi
    exact ((hp2.alloc tmp).other hr (by decide) hgrow).box hbx (by decide)
end Go.Proofs.YthdjlaombbeagaaGreat

/-
  FRAMES of the fold: what stands behind some of its rounds.
-/
namespace Go.Proofs.YthdjlaombbeagaaGreat
open Go.RowKit Go.Shelf

theorem infoT : (Tryz.prog.info? 62).map (fun i => (i.zero, i.size, i.bytes)) = some (some (.agg #[.slice none 0 0, .slice none 0 0]), 2, 48) := by kernel_rfl
theorem infoF : (Tryz.prog.info? 67).map (fun i => (i.zero, i.size, i.bytes)) = some (some (.agg #[.int .i64 0, .int .i64 0, .int .i64 0, .int .i64 0, .string ⟨#[]⟩, .slice none 0 0]), 6, 72) := by kernel_rfl

/-- all blocks below M lie as they lay, but one -/
def Kq (M bx : Nat) (X Y : World) : Prop := X.heap.size ≤ Y.heap.size ∧ ∀ k, k < M → k ≠ bx → Y.heap[k]? = X.heap[k]?
theorem Kq.refl (M bx : Nat) (X : World) : Kq M bx X X := ⟨Nat.le_refl _, fun _ _ _ => rfl⟩
theorem Kq.trans {M bx : Nat} {X Y Z : World} (h : Kq M bx X Y) (k : Kq M bx Y Z) : Kq M bx X Z := ⟨Nat.le_trans h.1 k.1, fun i h1 h2 => (k.2 i h1 h2).trans (h.2 i h1 h2)⟩
theorem kq_below {M bx : Nat} {X Y : World} (h : Below M X Y) (hs : X.heap.size ≤ Y.heap.size) : Kq M bx X Y := ⟨hs, fun k hk _ => h.block k hk⟩
theorem kq_set {M bx : Nat} {X : World} {u : Value} : Kq M bx X (X.setCell ⟨bx, 0, none⟩ u) := ⟨by simp, fun k _ hne => Below.heap_setCell _ ⟨bx, 0, none⟩ _ k hne⟩
theorem Kq.kpR {M bx B Bk : Nat} {A : Option Addr} {l : List Dat} {t : TypeId} {fv : Value} {X Y : World} (h : Kq M bx X Y) (hA : ∀ b o, l ≠ [] → A = some ⟨b, o, none⟩ → b < B → b ≠ bx) (hB : B ≤ M) (hk : Bk < M) (hkx : Bk ≠ bx) : KpR B A l Bk t fv X Y := by
  refine ⟨fun hs hl => ?_, fun hb => (h.2 Bk hk hkx).trans hb, h.1⟩
  obtain ⟨b, o, e, hlt, hc⟩ := hs hl
  have hb := h.2 b (by omega) (hA b o hl e hlt)
  exact ⟨b, o, e, hlt, fun j v hv i hi => (World.cell?_of_block (w := X) (a := ⟨b, o + j * 9 + i, none⟩) hb).trans (hc j v hv i hi)⟩
theorem kpR_put {M B Bk : Nat} {A : Option Addr} {l : List Dat} {t : TypeId} {fv : Value} (hB : B ≤ M) (hk : Bk < M) (W : World) (lp : Nat) (o' : Obj) (hl : M ≤ lp) : KpR B A l Bk t fv W (W.putObj lp o') := by
  have hh : ∀ k, k < M → (W.putObj lp o').heap[k]? = W.heap[k]? := fun k hk => World.putObj_heap_other (by omega)
  refine ⟨fun hs hl => ?_, fun hb => (hh Bk hk).trans hb, by simp [World.putObj]⟩
  obtain ⟨b, o, e, hlt, hc⟩ := hs hl
  exact ⟨b, o, e, hlt, fun j v hv i hi => (World.cell?_of_block (w := W) (a := ⟨b, o + j * 9 + i, none⟩) (hh b (by omega))).trans (hc j v hv i hi)⟩
theorem slD_box {W : World} {B bx : Nat} {A : Option Addr} {l : List Dat} {t : TypeId} {u : Value} (h : SlD W B A l) (hb : Boxed W bx t u) : ∀ b o, l ≠ [] → A = some ⟨b, o, none⟩ → b < B → b ≠ bx := fun b o hl e _ => by
  rintro rfl
  obtain ⟨b', o', e', _, hc⟩ := h hl
  rw [e] at e'
  cases e'
  have h1 := (hc 0 _ (List.getElem?_eq_getElem (List.length_pos_iff.2 hl))).c1
  simp [World.cell?, show W.heap[b]? = _ from hb] at h1
section
variable {κ : Type} [DecidableEq κ] (key : Dat → κ)
theorem run_sl {W : World} {B c : Nat} {A : Option Addr} {l : List Dat} (hs : SlD W B A l) (hlc : l.length ≤ c) (i : Nat) (h : i < (runsL key l).length) :
    SlD W B (stR A c ((runsL key l).take i)).1 (runsL key l)[i] ∧ (runsL key l)[i].length ≤ (stR A c ((runsL key l).take i)).2 ∧ (stR A c ((runsL key l).take i)).2 ≤ c ∧ (runsL key l)[i].length ≤ l.length := by
  obtain ⟨h1, h2, h3⟩ := restR_next key h
  have hf := flat_le key l i
  have hr := rest_len key l i
  have hlen : (runsL key l)[i].length ≤ (restR key l i).length := by rw [h2, List.length_take]; omega
  rw [stR_cap]
  refine ⟨?_, by omega, by omega, by omega⟩
  rw [h2]
  exact (stR_sl _ hs hlc hf).take _
theorem run_mem {l : List Dat} {r : List Dat} (h : r ∈ runsL key l) {d : Dat} (hd : d ∈ r) : d ∈ l := by
  rw [← runsL_join key _ l (Nat.le_refl _)]
  exact List.mem_flatten.2 ⟨r, h, hd⟩
theorem run_ne {l : List Dat} {r : List Dat} (h : r ∈ runsL key l) : r ≠ [] := by
  obtain ⟨x, r', rfl, _⟩ := runsL_each key _ l (Nat.le_refl _) r h
  simp
theorem flat_few : ∀ (L : List (List Dat)), (∀ r ∈ L, r ≠ []) → L.length ≤ L.flatten.length
  | [], _ => Nat.le_refl _
  | r :: L, h => by
    have h1 := flat_few L (fun q hq => h q (List.mem_cons_of_mem _ hq))
    have h2 := List.length_pos_iff.2 (h r List.mem_cons_self)
    rw [List.flatten_cons, List.length_append, List.length_cons]
    omega
theorem runs_few (l : List Dat) : (runsL key l).length ≤ l.length := by
  have h := flat_few (runsL key l) (fun r hr => run_ne key hr)
  rwa [runsL_join key _ l (Nat.le_refl _)] at h
end
theorem map_all {α : Type} (L : List α) : (allN L.length).map (fun i => L[i.val]) = L := by
  unfold allN
  apply List.ext_getElem
  · simp
  · intro i h1 h2
    simp
theorem turns_snoc {R : List Dat → TurnP → Prop} {L : List (List Dat)} {T : List TurnP} (hl : T.length = L.length) (h : ∀ (i : Nat) (d : List Dat) (x : TurnP), L[i]? = some d → T[i]? = some x → R d x) {o : List Dat} {x : TurnP} (hx : R o x) :
    ∀ (i : Nat) (d : List Dat) (y : TurnP), (L ++ [o])[i]? = some d → (T ++ [x])[i]? = some y → R d y := fun i d y hd hy => by
  by_cases hi : i < L.length
  · rw [List.getElem?_append_left hi] at hd
    rw [List.getElem?_append_left (by omega)] at hy
    exact h i d y hd hy
  · rw [List.getElem?_append_right (by omega)] at hd hy
    rw [hl] at hy
    cases hk : i - L.length with
    | zero => rw [hk] at hd hy; simp at hd hy; subst hd hy; exact hx
    | succ k => rw [hk] at hd; simp at hd
theorem mayD_live {d : Dat} (h : mayD d = true) : d.fr < d.til := by
  unfold mayD at h
  exact of_decide_eq_true (Bool.and_eq_true_iff.1 h).2
/-- what stands behind some transactions of a triple -/
def TMid (W0 : World) (M2 b8 : Nat) (r : List Dat) (pre : List (Fin (runsL (fun d : Dat => d.t) r).length)) (W : World) : Prop :=
  Below W0.heap.size W0 W ∧ (∃ v ps, Boxed W b8 55 v ∧ OwnT W b8 v ps ∧ ps.length = pre.length ∧
    (∀ (i : Nat) (d : List Dat) (x : TurnP), (pre.map (fun j => (runsL (fun d : Dat => d.t) r)[j.val]))[i]? = some d → (ps.map (·.1))[i]? = some x → IsTurn d x ∧ (∀ q ∈ x.i, SpOk q) ∧ ∀ q ∈ x.o, SpOk q)) ∧ (∀ j ∈ pre, ¬ Clash (runsL (fun d : Dat => d.t) r)[j.val]) ∧ M2 ≤ W.heap.size
theorem tMid_own (W0 : World) (M2 b8 : Nat) (r : List Dat) (h0 : W0.heap.size ≤ M2) (h8 : b8 < M2) : OwnFrom M2 (TMid W0 M2 b8 r) := fun pre X Y row ⟨g1, ⟨v, ps, g2, g3, g4, g5⟩, g6, g7⟩ hg hr =>
  ⟨g1.grown hg g1.size (fun j ej => by have := (hr j ej).1; omega), ⟨v, ps, g2.kept hg (fun e => by have := (hr _ e.symm).1; omega), g3.kept hg (fun r e => (hr r e).2), g4, g5⟩, g6, Nat.le_trans g7 hg.size⟩
/-- a transaction was found that adds and cuts -/
def TStop (w W0 : World) (M bF bE : Nat) (r : List Dat) (cd : Code) (pre : List (Fin (runsL (fun d : Dat => d.t) r).length)) (W : World) : Prop :=
  cd = .exit 0 ∧ (∃ j ∈ pre, Clash (runsL (fun d : Dat => d.t) r)[j.val]) ∧ Boxed W bF 26 (.slice none 0 0) ∧ Boxed W bE 27 (.int .i64 60) ∧ KeepsFrom M W0 W ∧ Below w.heap.size w W
theorem tStop_own (w W0 : World) (M M2 bF bE : Nat) (r : List Dat) (h0 : w.heap.size ≤ M2) (h1 : W0.heap.size ≤ M2) (hF : bF < M2) (hE : bE < M2) (cd : Code) : OwnFrom M2 (TStop w W0 M bF bE r cd) := fun pre X Y row ⟨e, g1, g2, g3, g4, g5⟩ hg hr =>
  ⟨e, g1, g2.kept hg (fun e => by have := (hr _ e.symm).1; omega), g3.kept hg (fun e => by have := (hr _ e.symm).1; omega), ownFrom_keepsFrom (β := Unit) h1 () X Y row g4 hg hr, g5.grown hg g5.size (fun j ej => by have := (hr j ej).1; omega)⟩
/-- what stands behind some triples -/
def FMid (w W4 : World) (M bF : Nat) (S : List Dat) (pre : List (Fin (runsL triD S).length)) (W : World) : Prop :=
  M ≤ W.heap.size ∧ Below w.heap.size w W ∧ Kq M bF W4 W ∧ (∃ v ps, Boxed W bF 26 v ∧ OwnF W M v ps ∧ FoldsTo (pre.map (fun j => (runsL triD S)[j.val])) (ps.map (·.1)) ∧ ∀ p ∈ ps, p.1.l.length ≤ 3000) ∧ ∀ j ∈ pre, ∀ o ∈ timesL (runsL triD S)[j.val], ¬ Clash o
theorem fMid_own (w W4 : World) (M bF : Nat) (S : List Dat) (h0 : w.heap.size ≤ M) (hF : bF < M) : OwnFrom M (FMid w W4 M bF S) := fun pre X Y row ⟨g1, g2, g3, ⟨v, ps, g4, g5, g6, g8⟩, g7⟩ hg hr => by
  have hne : ∀ b, b < M → some b ≠ row := fun b hb e => by have := (hr b e.symm).1; omega
  refine ⟨Nat.le_trans g1 hg.size, g2.grown hg g2.size (fun j ej => by have := (hr j ej).1; omega), g3.trans ⟨hg.size, fun k hk _ => hg.block k (by omega) (hne k hk)⟩, ⟨v, ps, g4.kept hg (hne _ hF), g5.kept hg (fun r e => (hr r e).2), g6, g8⟩, g7⟩
def FStop (w : World) (bF bE : Nat) (S : List Dat) (cd : Code) (pre : List (Fin (runsL triD S).length)) (W : World) : Prop :=
  cd = .exit 0 ∧ (∃ j ∈ pre, ∃ o ∈ timesL (runsL triD S)[j.val], Clash o) ∧ Boxed W bF 26 (.slice none 0 0) ∧ Boxed W bE 27 (.int .i64 60) ∧ Below w.heap.size w W
theorem fStop_own (w : World) (M bF bE : Nat) (S : List Dat) (h0 : w.heap.size ≤ M) (hF : bF < M) (hE : bE < M) (cd : Code) : OwnFrom M (FStop w bF bE S cd) := fun pre X Y row ⟨e, g1, g2, g3, g5⟩ hg hr =>
  ⟨e, g1, g2.kept hg (fun e => by have := (hr _ e.symm).1; omega), g3.kept hg (fun e => by have := (hr _ e.symm).1; omega), g5.grown hg g5.size (fun j ej => by have := (hr j ej).1; omega)⟩
theorem OwnF.low {W : World} {B B' : Nat} {v : Value} {ps : List (FactP × Value)} (h : OwnF W B v ps) (hB : B' ≤ B) : OwnF W B' v ps := by
  refine ⟨⟨h.1.1, ?_⟩, h.2⟩
  rcases h.1.2 with h1 | ⟨g, cap, cur, e, h1, h2⟩
  · exact .inl h1
  · exact .inr ⟨g, cap, cur, e, Nat.le_trans hB h1, h2⟩
/-- What Fold answers of datoms that each may be. -/
def FoldEnd (w : World) (l : List Dat) (e : Ending) (w' : World) : Prop :=
  (∃ v ec, e = .returned (.tuple #[v, .int .i64 ec]) ∧ ((ec = 0 ∧ Goes (sortsD 1 l) ∧ ∃ fs, FoldsTo (runsL triD (sortsD 1 l)) fs ∧ FV w' v fs ∧ (∀ f ∈ fs, f.l.length ≤ 3000) ∧ ∃ ps, OwnF w' w.heap.size v ps ∧ ps.map (·.1) = fs) ∨ (ec = 60 ∧ v = .slice none 0 0 ∧ ¬ Goes (sortsD 1 l)))) ∧ Below w.heap.size w w'
theorem sorts_mem {l : List Dat} {d : Dat} (h : d ∈ sortsD 1 l) : d ∈ l := by
  have e1 : isO 1 = true := rfl
  unfold sortsD at h
  rw [if_pos e1] at h
  have h2 := (putsG_from (ordD_is e1) (l.filter (hasD 1)) [] (by unfold Ups; exact List.Pairwise.nil)).2 d
  unfold putsG at h
  rw [h2] at h
  rcases h with h | h
  · cases h
  · exact (List.mem_filter.1 h).1
theorem sorts_few (l : List Dat) : (sortsD 1 l).length ≤ l.length := by
  refine nodup_few _ _ ?_ fun x hx => sorts_mem hx
  have e1 : isO 1 = true := rfl
  have h2 := (putsG_from (ordD_is e1) (l.filter (hasD 1)) [] (by unfold Ups; exact List.Pairwise.nil)).1
  unfold sortsD
  rw [if_pos e1]
  unfold putsG
  refine List.Pairwise.imp (fun {a b} h => ?_) h2
  rintro rfl
  have := ((ordD_is e1).zero a a).2 rfl
  omega
theorem turn_in (a b : Option Addr) (n c n' c' : Nat) (W : World) : (Instr.field 62 (.agg #[.slice a n c, .slice b n' c']) 0).run Tryz.prog W = .ok (.slice a n c) W := by
  kernel_rfl
theorem foldsTo_run {rs : List (List Dat)} {fs : List FactP} {r : List Dat} {l : List Sp} (h : FoldsTo rs fs) (hr : r ≠ []) (hl : HeldL r l) : FoldsTo (rs ++ [r]) (if l = [] then fs else fs ++ [factD (headD r) l]) := by
  cases r with
  | nil => exact absurd rfl hr
  | cons d r => exact foldsTo_snoc h hl
theorem fact_step {W w1 : World} {M bF B0 : Nat} {v v' : Value} {ps : List (FactP × Value)} {tmp : Obj} (hv : Boxed W bF 26 v) (h : OwnF W M v ps) (hM : M ≤ W.heap.size) (hF : bF < M) (hB : B0 ≤ bF) (hgrow : (W.alloc tmp).grownBy w1 v.ownBlock) :
    Boxed w1 bF 26 v ∧ Boxed (w1.setCell ⟨bF, 0, none⟩ v') bF 26 v' ∧ KeepsOthers W (w1.setCell ⟨bF, 0, none⟩ v') ∧ Kq M bF W (w1.setCell ⟨bF, 0, none⟩ v') ∧ Below B0 W (w1.setCell ⟨bF, 0, none⟩ v') := by
  have hrow := h.1
  have hv1 : Boxed w1 bF _ v := (hv.alloc tmp).kept hgrow (hv.not_row (by decide) hrow)
  have hlo : ∀ j, v.ownBlock = some j → M ≤ j := fun j ej => (World.ownsRow.lt hrow j ej).1
  refine ⟨hv1, hv1.set v', ?_, ?_, ?_⟩
  · refine ((KeepsOthers.alloc W tmp).trans (KeepsOthers.of_grownBy hgrow fun j o ej hj => ?_)).trans (KeepsOthers.setCell _ _ _)
    rcases (World.ownsRow.alloc hrow tmp).2 with ⟨rfl, _⟩ | ⟨g, cap, cur, rfl, _, hgb, _⟩
    · simp [Value.ownBlock] at ej
    · obtain rfl : g = j := by simpa [Value.ownBlock] using ej
      rw [hgb] at hj; cases hj; rfl
  · have hs := hgrow.size
    rw [World.size_alloc] at hs
    refine Kq.trans ⟨(by omega : W.heap.size ≤ w1.heap.size), fun k hk _ => ?_⟩ kq_set
    exact (hgrow.block k (by rw [World.size_alloc]; omega) (fun e => by have := hlo k e.symm; omega)).trans (Below.heap_alloc _ _ _ (by omega))
  · exact (((Below.refl B0 W).alloc (by omega) tmp).grown hgrow (by simp; omega) fun j ej => by have := hlo j ej; omega).setCell (p := ⟨bF, 0, none⟩) hB v'
end Go.Proofs.YthdjlaombbeagaaGreat

/-
  PLAIN FACTS: how triples stand; which facts may be; what datoms are folded to may be.
-/
namespace Go.Proofs.YthdjlaombbeagaaGreat
open VOrd (IsOrd lexO lex_is ordI_is ordT_is ordT)

/-- how two triples stand -/
def ordTr (x y : Int × Int × Int × Int × ByteArray) : Int := lexO ordI (lexO ordI ordT) x y
theorem ordTr_is : IsOrd ordTr := lex_is ordI_is (lex_is ordI_is ordT_is)
def triF (f : FactP) : Int × Int × Int × Int × ByteArray := (f.e, f.a, f.k, f.m, f.s)
/-- a datom that has all but the triple as it may be -/
def datF (f : FactP) : Dat := ⟨f.e, f.a, f.k, f.m, f.s, 1, false, 0, 1⟩
def mayF (f : FactP) : Bool := mayD (datF f) && decide (0 < f.l.length) && setB f.l
def RiseF (fs : List FactP) : Prop := fs.Pairwise fun x y => ordTr (triF x) (triF y) < 0
instance (fs : List FactP) : Decidable (RiseF fs) := inferInstanceAs (Decidable (fs.Pairwise fun x y => ordTr (triF x) (triF y) < 0))
/-- facts may be -/
def MayFs (fs : List FactP) : Prop := (∀ f ∈ fs, mayF f = true) ∧ RiseF fs
instance (fs : List FactP) : Decidable (MayFs fs) := inferInstanceAs (Decidable ((∀ f ∈ fs, mayF f = true) ∧ RiseF fs))
def mayFs (fs : List FactP) : Bool := decide (MayFs fs)
/-- one fact, behind the one ahead of it -/
def FOk (fs : List FactP) (i : Nat) : Prop := ∀ f, fs[i]? = some f → mayF f = true ∧ ∀ p, 0 < i → fs[i - 1]? = some p → ordTr (triF p) (triF f) < 0
theorem mayFs_all {fs : List FactP} (h : ∀ i, i < fs.length → FOk fs i) : mayFs fs = true := by
  refine decide_eq_true ⟨fun f hf => ?_, ?_⟩
  · obtain ⟨i, hi, rfl⟩ := List.mem_iff_getElem.1 hf
    exact (h i hi _ (List.getElem?_eq_getElem hi)).1
  · have step : ∀ (j : Nat) (hj : j + 1 < fs.length), ordTr (triF (fs[j]'(by omega))) (triF fs[j + 1]) < 0 := fun j hj => by
      have := (h (j + 1) hj _ (List.getElem?_eq_getElem hj)).2 (fs[j]'(by omega)) (by omega) (List.getElem?_eq_getElem (by omega))
      exact this
    have far : ∀ (n i : Nat) (hn : i + n + 1 < fs.length), ordTr (triF (fs[i]'(by omega))) (triF fs[i + n + 1]) < 0 := fun n => by
      induction n with
      | zero => exact fun i hn => step i hn
      | succ n ih => exact fun i hn => ordTr_is.lt (ih i (by omega)) (Int.le_of_lt (step (i + n + 1) (by omega)))
    show fs.Pairwise _
    rw [List.pairwise_iff_getElem]
    intro i j hi hj hij
    obtain ⟨n, rfl⟩ : ∃ n, j = i + n + 1 := ⟨j - i - 1, by omega⟩
    exact far n i hj
theorem fOk_of {fs : List FactP} (h : mayFs fs = true) (i : Nat) : FOk fs i := fun f hf => by
  obtain ⟨h1, h2⟩ := of_decide_eq_true h
  refine ⟨h1 f (List.mem_of_getElem? hf), fun p hi hp => ?_⟩
  obtain ⟨g1, rfl⟩ := List.getElem?_eq_some_iff.1 hf
  obtain ⟨g2, rfl⟩ := List.getElem?_eq_some_iff.1 hp
  exact List.pairwise_iff_getElem.1 h2 (i - 1) i g2 g1 (by omega)
theorem mayFs_no {fs : List FactP} {i : Nat} (h : ¬ FOk fs i) : mayFs fs = false := by
  cases hm : mayFs fs with
  | false => rfl
  | true => exact absurd (fOk_of hm i) h

theorem mem_factsOf : ∀ (rs : List (List Dat)) (ls : List (List Sp)) (f : FactP), f ∈ factsOf rs ls → ∃ (i : Nat) (d : Dat) (r : List Dat) (l : List Sp), rs[i]? = some (d :: r) ∧ ls[i]? = some l ∧ l ≠ [] ∧ f = factD d l
  | [], _, f, h => by cases h
  | _ :: _, [], f, h => by cases h
  | r :: rs, l :: ls, f, h => by
    rw [factsOf_cons] at h
    rcases List.mem_append.1 h with h | h
    · cases r with
      | nil => cases h
      | cons d r =>
        unfold factOf at h
        simp only at h
        by_cases hl : l = []
        · rw [if_pos hl] at h; cases h
        · rw [if_neg hl] at h
          exact ⟨0, d, r, l, rfl, rfl, hl, List.mem_singleton.1 h⟩
    · obtain ⟨i, d, q, m, h1, h2, h3, h4⟩ := mem_factsOf rs ls f h
      exact ⟨i + 1, d, q, m, by simpa using h1, by simpa using h2, h3, h4⟩
theorem factsOf_mem : ∀ (rs : List (List Dat)) (ls : List (List Sp)) (i : Nat) (d : Dat) (r : List Dat) (l : List Sp), rs[i]? = some (d :: r) → ls[i]? = some l → l ≠ [] → factD d l ∈ factsOf rs ls
  | [], _, i, d, r, l, h, _, _ => by simp at h
  | _ :: _, [], i, d, r, l, _, h, _ => by simp at h
  | q :: rs, m :: ls, 0, d, r, l, h, h', hl => by
    simp at h h'
    subst h h'
    rw [factsOf_cons]
    refine List.mem_append_left _ ?_
    unfold factOf
    simp [hl]
  | q :: rs, m :: ls, i + 1, d, r, l, h, h', hl => by
    rw [factsOf_cons]
    exact List.mem_append_right _ (factsOf_mem rs ls i d r l (by simpa using h) (by simpa using h') hl)
theorem factsOf_rise : ∀ (rs : List (List Dat)) (ls : List (List Sp)), (rs.Pairwise fun r r' => ∀ x ∈ r, ∀ y ∈ r', ordTr (triD x) (triD y) < 0) → RiseF (factsOf rs ls)
  | [], _, _ => List.Pairwise.nil
  | _ :: _, [], _ => List.Pairwise.nil
  | r :: rs, l :: ls, h => by
    obtain ⟨h1, h2⟩ := List.pairwise_cons.1 h
    show ((factOf r l ++ factsOf rs ls)).Pairwise _
    rw [List.pairwise_append]
    refine ⟨?_, factsOf_rise rs ls h2, fun x hx y hy => ?_⟩
    · unfold factOf
      cases r with
      | nil => exact List.Pairwise.nil
      | cons d r =>
        simp only
        split
        · exact List.Pairwise.nil
        · exact List.pairwise_singleton _ _
    · cases r with
      | nil => cases hx
      | cons d r =>
        unfold factOf at hx
        simp only at hx
        split at hx
        · cases hx
        · rw [List.mem_singleton.1 hx]
          obtain ⟨i, d', r', l', g1, _, _, rfl⟩ := mem_factsOf rs ls y hy
          exact h1 (d' :: r') (List.mem_of_getElem? g1) d (by simp) d' (by simp)

theorem ord1_lex (x y : Dat) : ordD 1 x y = lexO ordI (lexO ordI (lexO ordT tailO)) (x.e, (x.a, (valD x, tailD x))) (y.e, (y.a, (valD y, tailD y))) := by
  unfold ordD
  rw [if_pos (by rfl), partsD_1, partsD_1]
  show (if ordI x.e y.e = 0 then (if ordI x.a y.a = 0 then (if ordT (valD x) (valD y) = 0 then ordK [numP x.t, numP (cutN x.add), numP x.fr, numP x.til] [numP y.t, numP (cutN y.add), numP y.fr, numP y.til] else ordT (valD x) (valD y)) else ordI x.a y.a) else ordI x.e y.e) = _
  rw [ordK_tail]; rfl
/-- datoms in order stand by their triples first -/
theorem ord1_tri {x y : Dat} (h : ordD 1 x y < 0) : (triD x = triD y ∧ tailO (tailD x) (tailD y) < 0) ∨ ordTr (triD x) (triD y) < 0 := by
  rw [ord1_lex] at h
  have hT : ordTr (triD x) (triD y) = if ordI x.e y.e = 0 then (if ordI x.a y.a = 0 then ordT (valD x) (valD y) else ordI x.a y.a) else ordI x.e y.e := rfl
  have h' : (if ordI x.e y.e = 0 then (if ordI x.a y.a = 0 then (if ordT (valD x) (valD y) = 0 then tailO (tailD x) (tailD y) else ordT (valD x) (valD y)) else ordI x.a y.a) else ordI x.e y.e) < 0 := h
  rw [hT]
  by_cases h1 : ordI x.e y.e = 0
  · rw [if_pos h1] at h' ⊢
    by_cases h2 : ordI x.a y.a = 0
    · rw [if_pos h2] at h' ⊢
      by_cases h3 : ordT (valD x) (valD y) = 0
      · rw [if_pos h3] at h'
        refine .inl ⟨?_, h'⟩
        have e1 := (ordI_is.zero _ _).1 h1
        have e2 := (ordI_is.zero _ _).1 h2
        have e3 := (ordT_is.zero _ _).1 h3
        unfold valD at e3
        simp only [Prod.mk.injEq] at e3
        unfold triD
        rw [e1, e2, e3.1, e3.2.1, e3.2.2]
      · rw [if_neg h3] at h'
        exact .inr h'
    · rw [if_neg h2] at h' ⊢
      exact .inr h'
  · rw [if_neg h1] at h' ⊢
    exact .inr h'
theorem sorts_ups (l : List Dat) : Ups (ordD 1) (sortsD 1 l) ∧ ∀ z, z ∈ sortsD 1 l ↔ z ∈ l := by
  have e1 : isO 1 = true := rfl
  have h2 := putsG_from (ordD_is e1) (l.filter (hasD 1)) [] (by unfold Ups; exact List.Pairwise.nil)
  unfold sortsD
  rw [if_pos e1]
  unfold putsG
  refine ⟨h2.1, fun z => ?_⟩
  rw [h2.2 z, List.mem_filter]
  have : hasD 1 z = true := by unfold hasD; simp
  simp [this]
theorem tri_trans (a b c : Int × Int × Int × Int × ByteArray) (h : ordTr a b < 0) (h' : ordTr b c < 0) : ordTr a c < 0 := ordTr_is.lt h (Int.le_of_lt h')
theorem tri_irr (a : Int × Int × Int × Int × ByteArray) : ¬ ordTr a a < 0 := by
  have := (ordTr_is.zero a a).2 rfl
  omega
/-- runs of datoms in order rise by their triples -/
theorem runs_rise (l : List Dat) : (runsL triD (sortsD 1 l)).Pairwise fun r r' => ∀ x ∈ r, ∀ y ∈ r', ordTr (triD x) (triD y) < 0 :=
  runsL_rise triD (R := fun a b => ordTr a b < 0) tri_trans _ _ (Nat.le_refl _) ((sorts_ups l).1.imp fun h => (ord1_tri h).imp And.left id)
theorem foldsTo_may {l : List Dat} {fs : List FactP} (hm : notMay l = false) (h : FoldsTo (runsL triD (sortsD 1 l)) fs) : mayFs fs = true := by
  obtain ⟨ls, h1, h2, rfl⟩ := h
  refine decide_eq_true ⟨fun f hf => ?_, factsOf_rise _ _ (runs_rise l)⟩
  obtain ⟨i, d, r, q, g1, g2, g3, rfl⟩ := mem_factsOf _ _ f hf
  have hd : d ∈ l := ((sorts_ups l).2 d).1 (run_mem triD (List.mem_of_getElem? g1) (by simp))
  unfold notMay at hm
  rw [List.any_eq_false] at hm
  have hmd : mayD d = true := by simpa using hm d hd
  have hset := (h2 i _ _ g1 g2).1
  unfold mayF
  rw [Bool.and_eq_true_iff, Bool.and_eq_true_iff]
  refine ⟨⟨?_, decide_eq_true (List.length_pos_iff.2 g3)⟩, decide_eq_true hset⟩
  unfold mayD at hmd ⊢
  simp only [Bool.and_eq_true] at hmd ⊢
  exact ⟨⟨hmd.1.1, decide_eq_true (show (1 : Int) ≤ 1 ∧ (1 : Int) ≤ 1099511627776 by omega)⟩, decide_eq_true (show (0 : Int) < 1 by omega)⟩
/-- the instants of a triple -/
def spansOf (fs : List FactP) (x : Int × Int × Int × Int × ByteArray) : List Sp := match fs.find? (fun f => decide (triF f = x)) with
  | some f => f.l
  | none => []
theorem rise_one {fs : List FactP} (h : RiseF fs) {f g : FactP} (hf : f ∈ fs) (hg : g ∈ fs) (e : triF f = triF g) : f = g := by
  obtain ⟨i, hi, rfl⟩ := List.mem_iff_getElem.1 hf
  obtain ⟨j, hj, rfl⟩ := List.mem_iff_getElem.1 hg
  rcases Nat.lt_trichotomy i j with hij | hij | hij
  · have := List.pairwise_iff_getElem.1 h i j hi hj hij
    rw [e] at this
    exact absurd this (tri_irr _)
  · subst hij; rfl
  · have := List.pairwise_iff_getElem.1 h j i hj hi hij
    rw [e] at this
    exact absurd this (tri_irr _)
theorem spansOf_mem {fs : List FactP} (h : RiseF fs) {f : FactP} (hf : f ∈ fs) : spansOf fs (triF f) = f.l := by
  unfold spansOf
  cases hq : fs.find? (fun g => decide (triF g = triF f)) with
  | none =>
    have := List.find?_eq_none.1 hq f hf
    simp at this
  | some g =>
    have h1 := List.mem_of_find?_eq_some hq
    have h2 := List.find?_some hq
    rw [rise_one h h1 hf (of_decide_eq_true h2)]
theorem spansOf_none {fs : List FactP} {x : Int × Int × Int × Int × ByteArray} (h : ∀ f ∈ fs, triF f ≠ x) : spansOf fs x = [] := by
  unfold spansOf
  cases hq : fs.find? (fun g => decide (triF g = x)) with
  | none => rfl
  | some g =>
    have h2 := List.find?_some hq
    exact absurd (of_decide_eq_true h2) (h g (List.mem_of_find?_eq_some hq))
end Go.Proofs.YthdjlaombbeagaaGreat

/-
  PLAIN FACTS: what stands in a run; at each instant a fact holds just if the last of its datoms that names it is Add.
-/
namespace Go.Proofs.YthdjlaombbeagaaGreat
open VOrd (IsOrd lexO lex_is ordI_is ordT_is ordT)

/-- all of one key stand in one run, where runs rise -/
theorem run_has {α κ : Type} [DecidableEq κ] (key : α → κ) {R : κ → κ → Prop} (irr : ∀ a, ¬ R a a) {l : List α} (hp : (runsL key l).Pairwise fun r r' => ∀ x ∈ r, ∀ y ∈ r', R (key x) (key y)) {r : List α} (hr : r ∈ runsL key l) {x : α} (hx : x ∈ r) {y : α} (hy : y ∈ l) (e : key y = key x) : y ∈ r := by
  rw [← runsL_join key _ l (Nat.le_refl _)] at hy
  obtain ⟨q, hq, hyq⟩ := List.mem_flatten.1 hy
  obtain ⟨i, hi, rfl⟩ := List.mem_iff_getElem.1 hr
  obtain ⟨j, hj, rfl⟩ := List.mem_iff_getElem.1 hq
  rcases Nat.lt_trichotomy i j with h | h | h
  · have := List.pairwise_iff_getElem.1 hp i j hi hj h x hx y hyq
    rw [e] at this
    exact absurd this (irr _)
  · subst h; exact hyq
  · have := List.pairwise_iff_getElem.1 hp j i hj hi h y hyq x hx
    rw [e] at this
    exact absurd this (irr _)
theorem run_all {α κ : Type} [DecidableEq κ] (key : α → κ) {l : List α} {r : List α} (hr : r ∈ runsL key l) {x y : α} (hx : x ∈ r) (hy : y ∈ r) : key x = key y := by
  obtain ⟨z, r', rfl, h⟩ := runsL_each key _ l (Nat.le_refl _) r hr
  rw [h x hx, h y hy]
theorem run_in_mem {α κ : Type} [DecidableEq κ] (key : α → κ) {l r : List α} (h : r ∈ runsL key l) {d : α} (hd : d ∈ r) : d ∈ l := by
  rw [← runsL_join key _ l (Nat.le_refl _)]
  exact List.mem_flatten.2 ⟨r, h, hd⟩
/-- the run of a datom: all of its triple, rising in time -/
theorem run_of {l : List Dat} {d : Dat} (hd : d ∈ l) : ∃ r, r ∈ runsL triD (sortsD 1 l) ∧ (∀ x, x ∈ r ↔ x ∈ l ∧ triD x = triD d) ∧ r.Pairwise (fun x y => x.t = y.t ∨ x.t < y.t) := by
  have hds := ((sorts_ups l).2 d).2 hd
  rw [← runsL_join triD _ (sortsD 1 l) (Nat.le_refl _)] at hds
  obtain ⟨r, hr, hdr⟩ := List.mem_flatten.1 hds
  refine ⟨r, hr, fun x => ⟨fun hx => ⟨((sorts_ups l).2 x).1 (run_in_mem triD hr hx), run_all triD hr hx hdr⟩, fun ⟨h1, h2⟩ => ?_⟩, ?_⟩
  · exact run_has triD (R := fun a b => ordTr a b < 0) tri_irr (runs_rise l) hr hdr (((sorts_ups l).2 x).2 h1) h2
  · have hsub : r.Sublist (sortsD 1 l) := by
      have := List.sublist_flatten_of_mem hr
      rwa [runsL_join triD _ (sortsD 1 l) (Nat.le_refl _)] at this
    have hu := (sorts_ups l).1.sublist hsub
    refine (List.pairwise_iff_getElem.2 fun i j hi hj hij => ?_)
    have h := List.pairwise_iff_getElem.1 hu i j hi hj hij
    have e := run_all triD hr (List.getElem_mem hi) (List.getElem_mem hj)
    rcases ord1_tri h with ⟨_, h⟩ | h
    · have h' : (if ordI r[i].t r[j].t = 0 then _ else ordI r[i].t r[j].t) < 0 := h
      unfold ordI at h'
      by_cases h1 : r[i].t < r[j].t
      · exact .inr h1
      · by_cases h2 : r[j].t < r[i].t
        · rw [if_neg h1, if_pos h2] at h'
          simp at h'
        · exact .inl (by omega)
    · rw [e] at h
      exact absurd h (tri_irr _)
theorem times_rise {r : List Dat} (h : r.Pairwise fun x y => x.t = y.t ∨ x.t < y.t) : (timesL r).Pairwise fun r r' => ∀ x ∈ r, ∀ y ∈ r', x.t < y.t :=
  runsL_rise (fun d : Dat => d.t) (R := fun a b : Int => a < b) (fun _ _ _ h h' => Int.lt_trans h h') _ _ (Nat.le_refl _) h
/-- what holds of a datom's fact, by the datoms that are like it -/
theorem spans_last {l : List Dat} {fs : List FactP} (hg : Goes (sortsD 1 l)) (h : FoldsTo (runsL triD (sortsD 1 l)) fs) (hm : notMay l = false) {d : Dat} (hd : d ∈ l) (t : Int) :
    Inn (spansOf fs (triD d)) t ↔ ∃ x ∈ l, triD x = triD d ∧ x.add = true ∧ Names x t ∧ ∀ y ∈ l, triD y = triD d → Names y t → y.add = false → y.t < x.t := by
  have hrise : RiseF fs := (of_decide_eq_true (foldsTo_may hm h)).2
  obtain ⟨r, hr, hrm, hrt⟩ := run_of hd
  obtain ⟨ls, h1, h2, rfl⟩ := h
  obtain ⟨i, hi, hri⟩ := List.mem_iff_getElem.1 hr
  have hq : (runsL triD (sortsD 1 l))[i]? = some r := by rw [List.getElem?_eq_getElem hi, hri]
  obtain ⟨q, hql⟩ : ∃ q, ls[i]? = some q := ⟨_, List.getElem?_eq_getElem (by omega)⟩
  have hheld := h2 i r q hq hql
  have hrne := run_ne triD hr
  obtain ⟨d0, r0, rfl⟩ : ∃ d0 r0, r = d0 :: r0 := List.exists_cons_of_ne_nil hrne
  have hd0 : triD d0 = triD d := ((hrm d0).1 (by simp)).2
  have hsp : spansOf (factsOf (runsL triD (sortsD 1 l)) ls) (triD d) = q := by
    by_cases hqe : q = []
    · subst hqe
      refine spansOf_none fun f hf e => ?_
      obtain ⟨j, d', r', m, g1, g2, g3, rfl⟩ := mem_factsOf _ _ f hf
      have hmem : d' ∈ d0 :: r0 := run_has triD (R := fun a b => ordTr a b < 0) tri_irr (runs_rise l) hr (x := d0) (by simp) (run_in_mem triD (List.mem_of_getElem? g1) (by simp)) (show triD d' = triD d0 by rw [hd0]; exact e)
      have hj : j < (runsL triD (sortsD 1 l)).length := (List.getElem?_eq_some_iff.1 g1).1
      have hj2 := (List.getElem?_eq_some_iff.1 g1).2
      have hij : i = j := by
        rcases Nat.lt_trichotomy i j with h | h | h
        · have := List.pairwise_iff_getElem.1 (runs_rise l) i j hi hj h d' (by rw [hri]; exact hmem) d' (by rw [hj2]; simp)
          exact absurd this (tri_irr _)
        · exact h
        · have := List.pairwise_iff_getElem.1 (runs_rise l) j i hj hi h d' (by rw [hj2]; simp) d' (by rw [hri]; exact hmem)
          exact absurd this (tri_irr _)
      subst hij
      rw [hql] at g2
      cases g2
      exact g3 rfl
    · have hf := factsOf_mem _ _ i d0 r0 q hq hql hqe
      have := spansOf_mem hrise hf
      rw [show triF (factD d0 q) = triD d from hd0] at this
      exact this
  rw [hsp, hheld.2 t, inT_last (timesL (d0 :: r0)) t (times_rise hrt) (fun o ho => hg _ hr o ho) (fun o ho x hx y hy => run_all (fun d : Dat => d.t) ho hx hy)]
  rw [show (timesL (d0 :: r0)).flatten = d0 :: r0 from runsL_join _ _ _ (Nat.le_refl _)]
  constructor
  · rintro ⟨x, hx, ha, hn, hy⟩
    obtain ⟨g1, g2⟩ := (hrm x).1 hx
    exact ⟨x, g1, g2, ha, hn, fun y hy1 hy2 hy3 hy4 => hy y ((hrm y).2 ⟨hy1, hy2⟩) hy3 hy4⟩
  · rintro ⟨x, g1, g2, ha, hn, hy⟩
    exact ⟨x, (hrm x).2 ⟨g1, g2⟩, ha, hn, fun y hy1 hy3 hy4 => hy y ((hrm y).1 hy1).1 ((hrm y).1 hy1).2 hy3 hy4⟩
/-- of one transaction no datom adds an instant of a triple that another one cuts -/
theorem goes_apart {l : List Dat} (hg : Goes (sortsD 1 l)) {x y : Dat} (hx : x ∈ l) (hy : y ∈ l) (e : triD x = triD y) (et : x.t = y.t) {t : Int} (hnx : Names x t) (hny : Names y t) : x.add = y.add := by
  obtain ⟨r, hr, hrm, hrt⟩ := run_of hx
  have hxr := (hrm x).2 ⟨hx, rfl⟩
  have hyr := (hrm y).2 ⟨hy, e.symm⟩
  have hxf : x ∈ (timesL r).flatten := by rw [show (timesL r).flatten = r from runsL_join _ _ _ (Nat.le_refl _)]; exact hxr
  obtain ⟨o, ho, hxo⟩ := List.mem_flatten.1 hxf
  have hyo : y ∈ o := run_has (fun d : Dat => d.t) (R := fun a b : Int => a < b) (fun a h => Int.lt_irrefl a h) (times_rise hrt) ho hxo hyr et.symm
  have hc := hg r hr o ho
  cases h1 : x.add <;> cases h2 : y.add
  · rfl
  · exact absurd ⟨t, inn_adds.2 ⟨y, hyo, h2, hny⟩, inn_cuts.2 ⟨x, hxo, h1, hnx⟩⟩ hc
  · exact absurd ⟨t, inn_adds.2 ⟨x, hxo, h1, hnx⟩, inn_cuts.2 ⟨y, hyo, h2, hny⟩⟩ hc
  · rfl
end Go.Proofs.YthdjlaombbeagaaGreat
