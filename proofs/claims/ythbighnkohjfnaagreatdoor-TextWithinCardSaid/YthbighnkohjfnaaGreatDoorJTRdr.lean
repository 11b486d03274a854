import Derived.Test.YthbighnkohjfnaaGreatDoorJTCur
import Derived.RangeFuncNested
import Derived.RangeFuncBound
import Derived.RangeFuncCalls
import Derived.RangeFuncLeaves
import Derived.Test.YthbighnkohjfnaaGreatDoorJTNd
/-
  CONTRACTS: the cursor of package text: place, token; the end of a line.
-/
namespace Go.Proofs.YthbighnkohjfnaaGreatDoor
open Go.RowKit

theorem tw_all {p : UInt8 → Bool} : ∀ {l : Bs}, (∀ c ∈ l, p c = true) → l.takeWhile p = l
  | [], _ => rfl
  | c :: r, h => by rw [List.takeWhile_cons_of_pos (h c (List.mem_cons_self ..)), tw_all fun c hc => h c (List.mem_cons_of_mem _ hc)]
theorem tw_mem {p : UInt8 → Bool} : ∀ {l : Bs} {c : UInt8}, c ∈ l.takeWhile p → p c = true
  | a :: r, c, h => by
    by_cases ha : p a = true
    · rw [List.takeWhile_cons_of_pos ha, List.mem_cons] at h
      rcases h with rfl | h
      · exact ha
      · exact tw_mem h
    · rw [List.takeWhile_cons_of_neg ha] at h
      cases h
theorem measL_le (l : Bs) : (measL l).2 ≤ l.length := by
  cases l with
  | nil => exact Nat.zero_le _
  | cons c r =>
    rw [measL_cons]
    by_cases h1 : (openC c).isSome = true
    · rw [if_pos h1]; simp
    rw [if_neg h1]
    by_cases h2 : closeC c = true
    · rw [if_pos h2]; simp
    rw [if_neg h2, wordN_cons]
    by_cases h3 : c = 34
    · rw [if_pos h3]
      by_cases h4 : r.contains 34 = true
      · rw [if_pos h4]
        have hle : (r.takeWhile (fun b => b != 34)).length < r.length := by
          have hm : (34 : UInt8) ∈ r := by simpa using h4
          have h5 := (List.takeWhile_prefix (fun b => b != 34) (l := r)).length_le
          rcases Nat.lt_or_ge (r.takeWhile (fun b => b != 34)).length r.length with h | h
          · exact h
          · have e : r.takeWhile (fun b => b != 34) = r := (List.takeWhile_prefix _).eq_of_length (by omega)
            have := tw_mem (show (34 : UInt8) ∈ r.takeWhile (fun b => b != 34) by rw [e]; exact hm)
            exact absurd this (by decide)
        show _ + 1 + 1 ≤ _
        rw [List.length_cons]
        omega
      · rw [if_neg h4]; exact Nat.le_refl _
    · rw [if_neg h3]
      have h5 := (List.takeWhile_prefix wordC (l := c :: r)).length_le
      cases hn : (List.takeWhile wordC (c :: r)).length with
      | zero => exact Nat.zero_le _
      | succ n => rw [hn] at h5; exact h5
theorem measL_kind (l : Bs) : (measL l).1 = 0 ∨ (measL l).1 = 1 ∨ (measL l).1 = 2 ∨ (measL l).1 = 4 := by
  cases l with
  | nil => exact .inr (.inr (.inr rfl))
  | cons c r =>
    rw [measL_cons]
    by_cases h1 : (openC c).isSome = true
    · rw [if_pos h1]; exact .inr (.inl rfl)
    rw [if_neg h1]
    by_cases h2 : closeC c = true
    · rw [if_pos h2]; exact .inr (.inr (.inl rfl))
    rw [if_neg h2]
    cases wordN (c :: r) with
    | none => exact .inr (.inr (.inr rfl))
    | some n => cases n with
      | zero => exact .inr (.inr (.inr rfl))
      | succ n => exact .inl rfl
theorem results_cell_one {fn : Func} {p : Tmp} {ty : TypeId} (h : fn.results = #[.cell p ty]) (tmps : Array Value) (P : Program) (w : World) :
    (results fn tmps).run P w = ((asAddr (tmps.getD p undef)).run P w).andThen fun a w₁ => (loadVar ty a).run P w₁ := by
  simp only [results, h]
  simp [Sem.run_bind]
/-- a token as a value -/
def tokV (k : Int) (s : ByteArray) (p : Nat × Nat) : Value := .agg #[.int .i64 k, .string s, .int .i64 (p.1 : Int), .int .i64 (p.2 : Int)]
set_option maxRecDepth 100000 in
set_option maxHeartbeats 2000000 in
theorem place_any (b : Nat) (s : ByteArray) (p : Nat × Nat) (k : Int) (w : World) (hB : BxC w b s p) :
    Calls Tryz.prog 35 #[.pointer (some ⟨b, 0, none⟩), .int .i64 k] w fun e w' => e = .returned (tokV k ⟨#[]⟩ p) ∧ Below w.heap.size w w' := by
  have hb0 : Below w.heap.size w (w.alloc (.cells #[.int .i64 0, .string ⟨#[]⟩, .int .i64 0, .int .i64 0] 46)) := (Below.refl _ _).alloc (Nat.le_refl _) _
  have hB2 := hB.next hb0 hB.lt
  have y1 := hB2.cell 1
  have y2 := hB2.cell 2
  have HB0 := Lib.hid hb0
  clear hB hB2 hb0
  obtain ⟨p1, p2⟩ := p
  go_enter Tryz.func35, Tryz.ntmps35
  go_wp2_with fail
  go_region
  go_wp2
  refine bodyPost_ret (v := tokV k ⟨#[]⟩ (p1, p2)) ?_ rfl ⟨rfl, ((Below.refl _ _).alloc (Nat.le_refl _) _).drew⟩
  rw [results_cell_one rfl]
  go_simp
  rfl
set_option maxRecDepth 100000 in
set_option maxHeartbeats 2000000 in
theorem toEnd_any (s : ByteArray) (w : World) :
    Calls Tryz.prog 33 #[.string s] w fun e w' => e = .returned (.int .i64 ((s.data.toList.takeWhile (fun b => b != 10)).length : Nat)) ∧ w = w' := by
  have hcall := idxByte_any s 10 w
  have hl : s.data.toList.length = s.size := by simp
  rcases idx_take s.data.toList 10 with ⟨h1, h2⟩ | ⟨h1, h2⟩
  · rw [h2] at hcall
    obtain ⟨k, hkk⟩ : ∃ k, (s.data.toList.takeWhile (fun b => b != 10)).length = k := ⟨_, rfl⟩
    rw [hkk] at hcall ⊢
    have HC := Lib.hid hcall
    clear hcall hkk h1 h2 hl
    go_enter Tryz.func33, Tryz.ntmps33
    go_wp2_with fail
    refine HC.out.mono ?_
    rintro e w' ⟨rfl, rfl⟩
    go_wp2
    go_ret
    exact ⟨rfl, rfl⟩
  · rw [h2] at hcall
    have hall : s.data.toList.takeWhile (fun b => b != 10) = s.data.toList := by
      refine tw_all fun c hc => ?_
      have : c ≠ 10 := by
        rintro rfl
        rw [show s.data.toList.contains 10 = true by simpa using hc] at h1
        cases h1
      simp [this]
    rw [hall, hl]
    have HC := Lib.hid hcall
    clear hcall hall h1 h2 hl
    go_enter Tryz.func33, Tryz.ntmps33
    go_wp2_with fail
    refine HC.out.mono ?_
    rintro e w' ⟨rfl, rfl⟩
    go_wp2
    go_ret
    exact ⟨rfl, rfl⟩
/-- a token in its block -/
def BxT (W : World) (b : Nat) (k : Int) (s : ByteArray) (p : Nat × Nat) : Prop := W.heap[b]? = some (.cells #[.int .i64 k, .string s, .int .i64 (p.1 : Int), .int .i64 (p.2 : Int)] 46 (0, 0))
theorem BxT.cell {W : World} {b : Nat} {k : Int} {s : ByteArray} {p : Nat × Nat} (h : BxT W b k s p) (j : Nat) : W.cell? ⟨b, j, none⟩ = (#[Value.int .i64 k, .string s, .int .i64 (p.1 : Int), .int .i64 (p.2 : Int)])[j]? := by unfold BxT at h; simp [World.cell?, h]
theorem BxT.fz {W : World} {b : Nat} {k : Int} {s : ByteArray} {p : Nat × Nat} (h : BxT W b k s p) (j : Nat) : W.frozen? ⟨b, j, none⟩ = false := by unfold BxT at h; simp [World.frozen?, h]
theorem BxT.lt {W : World} {b : Nat} {k : Int} {s : ByteArray} {p : Nat × Nat} (h : BxT W b k s p) : b < W.heap.size := (Array.getElem?_eq_some_iff.1 h).1
theorem BxT.next {W W' : World} {b : Nat} {k : Int} {s : ByteArray} {p : Nat × Nat} (h : BxT W b k s p) (hb : Below W.heap.size W W') : BxT W' b k s p := (hb.block b h.lt).trans h
theorem BxT.only {W W' : World} {b g : Nat} {k : Int} {s : ByteArray} {p : Nat × Nat} (h : BxT W g k s p) (hb : Only b W W') (hg : g ≠ b) : BxT W' g k s p := (hb.block hg h.lt).trans h
theorem BxC.only {W W' : World} {b g : Nat} {s : ByteArray} {p : Nat × Nat} (h : BxC W g s p) (hb : Only b W W') (hg : g ≠ b) : BxC W' g s p := (hb.block hg h.lt).trans h
theorem BxC.below {W W' : World} {b : Nat} {s : ByteArray} {p : Nat × Nat} (h : BxC W b s p) (hb : Below W.heap.size W W') : BxC W' b s p := (hb.block b h.lt).trans h
theorem BxT.set4 {W : World} {b : Nat} {k : Int} {s : ByteArray} {p : Nat × Nat} (h : BxT W b k s p) (k' : Int) (s' : ByteArray) (p' : Nat × Nat) :
    BxT ((((W.setCell ⟨b, 0, none⟩ (.int .i64 k')).setCell ⟨b, 1, none⟩ (.string s')).setCell ⟨b, 2, none⟩ (.int .i64 (p'.1 : Int))).setCell ⟨b, 3, none⟩ (.int .i64 (p'.2 : Int))) b k' s' p' :=
  (heap_setCell_same _ _ _ _ _ _ (heap_setCell_same _ _ _ _ _ _ (heap_setCell_same _ _ _ _ _ _ (heap_setCell_same _ _ _ _ _ _ h)))).trans (by simp)
theorem BxT.setS {W : World} {b : Nat} {k : Int} {s : ByteArray} {p : Nat × Nat} (h : BxT W b k s p) (t : ByteArray) : BxT (W.setCell ⟨b, 1, none⟩ (.string t)) b k t p :=
  (heap_setCell_same _ _ _ _ _ _ h).trans (by simp)
theorem bxT_new (W : World) (k : Int) (s : ByteArray) (p : Nat × Nat) : BxT (W.alloc (.cells #[.int .i64 k, .string s, .int .i64 (p.1 : Int), .int .i64 (p.2 : Int)] 46)) W.heap.size k s p := heap_alloc_new W _
/-- another block is as it was -/
theorem Only.other {b g : Nat} {W W' : World} (h : Only b W W') (hg : W.heap.size ≤ g) (k : Nat) (u : Value) (hb : b ≤ W.heap.size) : Only b W (W'.setCell ⟨g, k, none⟩ u) :=
  ⟨h.bel.setCell (p := ⟨g, k, none⟩) (show b ≤ g by omega) u, fun x hx hs => (Below.heap_setCell _ _ _ _ (show x ≠ g by omega)).trans (h.oth x hx hs)⟩
theorem Only.other4 {b g : Nat} {W W' : World} (h : Only b W W') (hg : W.heap.size ≤ g) (hb : b ≤ W.heap.size) (u0 u1 u2 u3 : Value) : Only b W ((((W'.setCell ⟨g, 0, none⟩ u0).setCell ⟨g, 1, none⟩ u1).setCell ⟨g, 2, none⟩ u2).setCell ⟨g, 3, none⟩ u3) :=
  (((h.other hg 0 u0 hb).other hg 1 u1 hb).other hg 2 u2 hb).other hg 3 u3 hb
theorem BxC.other4 {W : World} {b g : Nat} {s : ByteArray} {p : Nat × Nat} (h : BxC W b s p) (hg : b ≠ g) (u0 u1 u2 u3 : Value) : BxC ((((W.setCell ⟨g, 0, none⟩ u0).setCell ⟨g, 1, none⟩ u1).setCell ⟨g, 2, none⟩ u2).setCell ⟨g, 3, none⟩ u3) b s p :=
  (Below.heap_setCell _ _ _ _ hg).trans ((Below.heap_setCell _ _ _ _ hg).trans ((Below.heap_setCell _ _ _ _ hg).trans ((Below.heap_setCell _ _ _ _ hg).trans h)))
/-- what token() answers -/
def tokA (l : Bs) (s : ByteArray) (p : Nat × Nat) : Value := if (measL l).1 = 4 then tokV 4 ⟨#[]⟩ (posL (l.take (measL l).2) p) else tokV (measL l).1 (s.extract 0 (measL l).2) p
set_option maxRecDepth 100000 in
set_option maxHeartbeats 4000000 in
theorem token_any (b : Nat) (s : ByteArray) (p : Nat × Nat) (w : World) (hB : BxC w b s p) (h0 : s.size ≠ 0) (hs : s.size ≤ 50000) (hp1 : p.1 ≤ 100000) (hp2 : p.2 ≤ 100000) :
    Calls Tryz.prog 34 #[.pointer (some ⟨b, 0, none⟩)] w fun e w' => e = .returned (tokA s.data.toList s p) ∧ BxC w' b (s.extract (measL s.data.toList).2 s.size) (posL (s.data.toList.take (measL s.data.toList).2) p) ∧ Only b w w' := by
  have hl : s.data.toList.length = s.size := by simp
  have hle := measL_le s.data.toList
  rw [hl] at hle
  obtain ⟨R, hR⟩ : ∃ R, tokA s.data.toList s p = R := ⟨_, rfl⟩
  rw [hR]
  unfold tokA at hR
  have hkd := measL_kind s.data.toList
  obtain ⟨⟨k, n⟩, hm⟩ : ∃ m, measL s.data.toList = m := ⟨_, rfl⟩
  have hmeas := fun W => measured_any s W hs h0
  simp only [hm] at hmeas hR hkd hle ⊢
  obtain ⟨q, hq⟩ : ∃ q, posL (s.data.toList.take n) p = q := ⟨_, rfl⟩
  have hskip := fun W h => skip_any b s p n W h hle hs hp1 hp2
  rw [hq] at hR ⊢
  simp only [hq] at hskip
  have HR := Lib.hid hR
  have HB := Lib.hid hB
  have HLT := Lib.hid hB.lt
  clear hR hm hq hl hB
  have HB1 : Hid (BxC (w.alloc (.cells #[.int .i64 0, .string ⟨#[]⟩, .int .i64 0, .int .i64 0] 46)) b s p) := HB.out.below ((Below.refl _ _).alloc (Nat.le_refl _) _)
  have HT1 : Hid (BxT (w.alloc (.cells #[.int .i64 0, .string ⟨#[]⟩, .int .i64 0, .int .i64 0] 46)) w.heap.size 0 ⟨#[]⟩ (0, 0)) := bxT_new w 0 ⟨#[]⟩ (0, 0)
  have HO1 : Hid (Only b w (w.alloc (.cells #[.int .i64 0, .string ⟨#[]⟩, .int .i64 0, .int .i64 0] 46))) := (Only.refl _ _).alloc (Nat.le_of_lt HLT.out) _
  obtain ⟨W1, hW1⟩ : ∃ W1, w.alloc (.cells #[.int .i64 0, .string ⟨#[]⟩, .int .i64 0, .int .i64 0] 46) = W1 := ⟨_, rfl⟩
  rw [hW1] at HB1 HT1 HO1
  have y0 := HB1.out.cell 0
  rw [← hW1] at y0
  have HW1 := Lib.hid hW1
  clear hW1
  go_enter Tryz.func34, Tryz.ntmps34
  go_wp2_with fail
  rw [HW1.out]
  refine (hmeas W1).mono ?_
  rintro e w2 ⟨rfl, hb2⟩
  have HB2 := Lib.hid (HB1.out.below hb2)
  have HT2 := Lib.hid (HT1.out.next hb2)
  have HO2 := Lib.hid (HO1.out.trans (Only.of_below hb2 (Nat.le_of_lt HB1.out.lt)))
  have hz2 : w.heap.size < w2.heap.size := HT2.out.lt
  have HZ2 := Lib.hid hz2
  clear hb2 y0 hz2
  by_cases hk4 : k = 4
  · subst hk4
    have HRR : Hid (R = tokV 4 ⟨#[]⟩ q) := by have := HR.out; rw [if_pos rfl] at this; exact this.symm
    have HSK := Lib.hid (hskip w2 HB2.out)
    clear hskip hmeas hkd HR
    go_wp2_with fail
    refine HSK.out.mono ?_
    rintro e w3 ⟨rfl, hB3, hO3⟩
    have HB3 := Lib.hid hB3
    have HO3 := Lib.hid (HO2.out.trans hO3)
    have HT3 := Lib.hid (HT2.out.only hO3 (by have := HLT.out; omega))
    clear hB3 hO3
    go_wp2_with fail
    refine (place_any b _ q 4 w3 HB3.out).mono ?_
    rintro e w4 ⟨rfl, hb4⟩
    have HB4 := Lib.hid (HB3.out.below hb4)
    have HT4 := Lib.hid (HT3.out.next hb4)
    have HO4 := Lib.hid (HO3.out.trans (Only.of_below hb4 (Nat.le_of_lt HB3.out.lt)))
    clear hb4
    have x0 := HT4.out.cell 0
    have x1 := HT4.out.cell 1
    have x2 := HT4.out.cell 2
    have x3 := HT4.out.cell 3
    have g0 := HT4.out.fz 0
    have g1 := HT4.out.fz 1
    have g2 := HT4.out.fz 2
    have g3 := HT4.out.fz 3
    unfold tokV
    go_wp2
    obtain ⟨W5, hW5⟩ : ∃ W5, (((w4.setCell ⟨w.heap.size, 0, none⟩ (.int .i64 4)).setCell ⟨w.heap.size, 1, none⟩ (.string ⟨#[]⟩)).setCell ⟨w.heap.size, 2, none⟩ (.int .i64 (q.1 : Int))).setCell ⟨w.heap.size, 3, none⟩ (.int .i64 (q.2 : Int)) = W5 := ⟨_, rfl⟩
    have HT5 : Hid (BxT W5 w.heap.size 4 ⟨#[]⟩ q) := by rw [← hW5]; exact HT4.out.set4 4 ⟨#[]⟩ q
    have HB5 : Hid (BxC W5 b (s.extract n s.size) q) := by rw [← hW5]; exact HB4.out.other4 (by have := HLT.out; omega) _ _ _ _
    have HO5 : Hid (Only b w W5) := by rw [← hW5]; exact HO4.out.other4 (Nat.le_refl _) (Nat.le_of_lt HLT.out) _ _ _ _
    rw [hW5]
    clear x0 x1 x2 x3 g0 g1 g2 g3 hW5
    refine bodyPost_ret (v := tokV 4 ⟨#[]⟩ q) ?_ rfl ⟨by rw [HRR.out], HB5.out, HO5.out⟩
    rw [results_cell_one rfl]
    have x0 := HT5.out.cell 0
    have x1 := HT5.out.cell 1
    have x2 := HT5.out.cell 2
    have x3 := HT5.out.cell 3
    unfold tokV
    go_simp
  · have HRR : Hid (R = tokV k (s.extract 0 n) p) := by have := HR.out; rw [if_neg hk4] at this; exact this.symm
    have hkb : (k == 4) = false := beq_eq_false_iff_ne.2 hk4
    clear hmeas hkd HR
    go_wp2_with fail
    refine (place_any b s p k w2 HB2.out).mono ?_
    rintro e w3 ⟨rfl, hb3⟩
    have HB3 := Lib.hid (HB2.out.below hb3)
    have HT3 := Lib.hid (HT2.out.next hb3)
    have HO3 := Lib.hid (HO2.out.trans (Only.of_below hb3 (Nat.le_of_lt HB2.out.lt)))
    clear hb3
    unfold tokV
    obtain ⟨W3, hW3⟩ : ∃ W3, w3.alloc (.cells #[.int .i64 k, .string ⟨#[]⟩, .int .i64 (p.1 : Int), .int .i64 (p.2 : Int)] 46) = W3 := ⟨_, rfl⟩
    have HU3 : Hid (BxT W3 w3.heap.size k ⟨#[]⟩ p) := by rw [← hW3]; exact bxT_new w3 k ⟨#[]⟩ p
    have hb4 : Below w3.heap.size w3 W3 := by rw [← hW3]; exact (Below.refl _ _).alloc (Nat.le_refl _) _
    have HB4 := Lib.hid (HB3.out.below hb4)
    have HT4 := Lib.hid (HT3.out.next hb4)
    have HO4 := Lib.hid (HO3.out.trans (Only.of_below hb4 (Nat.le_of_lt HB3.out.lt)))
    have HSK := Lib.hid (hskip W3 HB4.out)
    have HW3 := Lib.hid hW3
    have HNE : Hid (w3.heap.size ≠ b) := by have := HB3.out.lt; show _ ≠ _; omega
    have HNE2 : Hid (w.heap.size < w3.heap.size) := HT3.out.lt
    clear hskip hW3 hb4
    go_wp2_with fail
    rw [HW3.out]
    refine HSK.out.mono ?_
    rintro e w5 ⟨rfl, hB5, hO5⟩
    have HB5 := Lib.hid hB5
    have HO5 := Lib.hid (HO4.out.trans hO5)
    have HT5 := Lib.hid (HT4.out.only hO5 (by have := HLT.out; omega))
    have HU5 := Lib.hid (HU3.out.only hO5 HNE.out)
    clear hB5 hO5
    have v0 := HU5.out.cell 0
    have v1 := HU5.out.cell 1
    have v2 := HU5.out.cell 2
    have v3 := HU5.out.cell 3
    have e1 := HU5.out.fz 1
    have x0 := HT5.out.cell 0
    have x1 := HT5.out.cell 1
    have x2 := HT5.out.cell 2
    have x3 := HT5.out.cell 3
    have g0 := HT5.out.fz 0
    have g1 := HT5.out.fz 1
    have g2 := HT5.out.fz 2
    have g3 := HT5.out.fz 3
    have hne3 := HNE2.out
    have hne4 : (w.heap.size == w3.heap.size) = false := beq_eq_false_iff_ne.2 (by omega)
    have hne5 : (w3.heap.size == w.heap.size) = false := beq_eq_false_iff_ne.2 (by omega)
    go_wp2
    obtain ⟨W5, hW5⟩ : ∃ W5, w5.setCell ⟨w3.heap.size, 1, none⟩ (.string (s.extract 0 n)) = W5 := ⟨_, rfl⟩
    have HT6 : Hid (BxT W5 w.heap.size 0 ⟨#[]⟩ (0, 0)) := by rw [← hW5]; exact (Below.heap_setCell _ _ _ _ (Nat.ne_of_lt HNE2.out)).trans HT5.out
    have HB6 : Hid (BxC W5 b (s.extract n s.size) q) := by rw [← hW5]; exact (Below.heap_setCell _ _ _ _ HNE.out.symm).trans HB5.out
    have HO6 : Hid (Only b w W5) := by rw [← hW5]; exact HO5.out.other (Nat.le_of_lt HNE2.out) 1 _ (Nat.le_of_lt HLT.out)
    rw [hW5]
    clear hW5 v0 v1 v2 v3 e1 x0 x1 x2 x3 g0 g1 g2 g3
    obtain ⟨W6, hW6⟩ : ∃ W6, (((W5.setCell ⟨w.heap.size, 0, none⟩ (.int .i64 k)).setCell ⟨w.heap.size, 1, none⟩ (.string (s.extract 0 n))).setCell ⟨w.heap.size, 2, none⟩ (.int .i64 (p.1 : Int))).setCell ⟨w.heap.size, 3, none⟩ (.int .i64 (p.2 : Int)) = W6 := ⟨_, rfl⟩
    have HT7 : Hid (BxT W6 w.heap.size k (s.extract 0 n) p) := by rw [← hW6]; exact HT6.out.set4 k (s.extract 0 n) p
    have HB7 : Hid (BxC W6 b (s.extract n s.size) q) := by rw [← hW6]; exact HB6.out.other4 (by have := HLT.out; omega) _ _ _ _
    have HO7 : Hid (Only b w W6) := by rw [← hW6]; exact HO6.out.other4 (Nat.le_refl _) (Nat.le_of_lt HLT.out) _ _ _ _
    rw [hW6]
    clear hW6
    refine bodyPost_ret (v := tokV k (s.extract 0 n) p) ?_ rfl ⟨by rw [HRR.out], HB7.out, HO7.out⟩
    rw [results_cell_one rfl]
    have x0 := HT7.out.cell 0
    have x1 := HT7.out.cell 1
    have x2 := HT7.out.cell 2
    have x3 := HT7.out.cell 3
    unfold tokV
    go_simp
end Go.Proofs.YthbighnkohjfnaaGreatDoor

/-
  A RANGE OVER A FUNCTION WHOSE ITERATOR HAS A CURSOR OF ITS OWN (a block of type T): the caller's invariant stands what is done to it.
-/
namespace Go.Proofs.YthbighnkohjfnaaGreatDoor
open Go.RowKit

/-- an invariant that stands what is done to a block of type T -/
def Stands {α : Type} (T : TypeId) (B : Nat) (J : List α → World → Prop) : Prop := ∀ (pre : List α) (X Y : World) (b : Nat) (cs : Array Value), B ≤ b → X.heap[b]? = some (.cells cs T (0, 0)) → Only b X Y → J pre X → J pre Y
/-- what a round keeps: blocks that are no nodes and no reader -/
structure KeepTk (X Y : World) : Prop where
  size : X.heap.size ≤ Y.heap.size
  same : ∀ (b : Nat) (cs : Array Value) (T : TypeId), X.heap[b]? = some (.cells cs T (0, 0)) → T ≠ 37 → T ≠ 41 → Y.heap[b]? = X.heap[b]?
theorem KeepTk.refl (X : World) : KeepTk X X := ⟨Nat.le_refl _, fun _ _ _ _ _ _ => rfl⟩
theorem KeepTk.trans {X Y Z : World} (h : KeepTk X Y) (k : KeepTk Y Z) : KeepTk X Z :=
  ⟨Nat.le_trans h.size k.size, fun b cs T hb h1 h2 => (k.same b cs T ((h.same b cs T hb h1 h2).trans hb) h1 h2).trans (h.same b cs T hb h1 h2)⟩
theorem KeepTk.of_below {X Y : World} (h : Below X.heap.size X Y) : KeepTk X Y := ⟨h.size, fun b _ _ hb _ _ => h.block b (Array.getElem?_eq_some_iff.1 hb).1⟩
theorem KeepTk.putObj (W : World) (l : Nat) (o o' : Obj) (ho : W.heap[l]? = some o) (hc : o.isCells = false) : KeepTk W (W.putObj l o') :=
  ⟨by simp, fun b cs T hb _ _ => by
    refine World.putObj_heap_other fun e => ?_
    subst e
    rw [ho] at hb
    cases hb
    cases hc⟩
/-- and what is no cells -/
structure KeepTx (X Y : World) : Prop extends KeepTk X Y where
  non : ∀ (b : Nat) (o : Obj), X.heap[b]? = some o → o.isCells = false → Y.heap[b]? = X.heap[b]?
theorem KeepTx.refl (X : World) : KeepTx X X := ⟨KeepTk.refl X, fun _ _ _ _ => rfl⟩
theorem KeepTx.trans {X Y Z : World} (h : KeepTx X Y) (k : KeepTx Y Z) : KeepTx X Z := ⟨h.toKeepTk.trans k.toKeepTk, fun b o hb hc => (k.non b o ((h.non b o hb hc).trans hb) hc).trans (h.non b o hb hc)⟩
theorem KeepTx.of_below {X Y : World} (h : Below X.heap.size X Y) : KeepTx X Y := ⟨KeepTk.of_below h, fun b _ hb _ => h.block b (Array.getElem?_eq_some_iff.1 hb).1⟩
theorem KeepTx.others {B : Nat} {X Y : World} (h : KeepTx X Y) : KeepsFrom B X Y := ⟨h.size, fun b o _ hb hc => (h.non b o hb hc).trans hb⟩
/-- The iterator's contract, where it writes its cursor: for invariants that stand that. -/
def StopsOnly {α : Type} (F : Fence) (n : Nat) (P : Program) (gf : Nat) (lb : Array Value) (encs : α → Array Value) (T : TypeId) (ok : α → Prop) (Kp : World → World → Prop) (S Sp : List α → Prop) (N : Nat) (w : World) : Prop :=
  ∀ (l : Nat) (J Jx : List α → World → Prop) (W : World), Below w.heap.size w W → AbidesFrom W.heap.size J → Stands T W.heap.size J →
    (∀ pre x X, J pre X → pre.length < N → ok x → YieldAt F (n - 1) P l (encs x) X fun e X' => (e = .returned (.bool true) ∧ J (pre ++ [x]) X' ∧ Kp X X') ∨ (e = .returned (.bool false) ∧ Jx (pre ++ [x]) X')) →
    J [] W →
    CallsIn F n P gf (#[.func (.yield l) #[] #[]] ++ lb) W fun e X => (∃ v, e = .returned v) ∧ ((∃ xs, S xs ∧ J xs X) ∨ ∃ q, Sp q ∧ Jx q X)

/-- the two blocks of a loop's book-keeping: its record, and what is deferred -/
structure Book (k : Nat) (r : Loop) (W : World) : Prop where
  loop : W.heap[k + 1]? = some (.loop r)
  late : W.heap[k]? = some (.deferred (some []))
theorem Book.grown {k : Nat} {r : Loop} {W W' : World} {row : Option Nat} (h : Book k r W) (hg : W.grownBy W' row) (hr : ∀ b, row = some b → ∃ o : Obj, W.heap[b]? = some o ∧ o.isWalk = true) : Book k r W' :=
  ⟨(grownBy_keeps hg hr h.loop rfl).trans h.loop, (grownBy_keeps hg hr h.late rfl).trans h.late⟩
theorem Book.only {k b : Nat} {r : Loop} {W W' : World} {cs : Array Value} {T : TypeId} (h : Book k r W) (hb : W.heap[b]? = some (.cells cs T (0, 0))) (ho : Only b W W') : Book k r W' :=
  ⟨(ho.block (fun e => by subst e; rw [h.loop] at hb; cases hb) (Array.getElem?_eq_some_iff.1 h.loop).1).trans h.loop, (ho.block (fun e => by subst e; rw [h.late] at hb; cases hb) (Array.getElem?_eq_some_iff.1 h.late).1).trans h.late⟩
theorem Book.from_ {k : Nat} {r : Loop} {W W' : World} (h : Book k r W) (hk : KeepsFrom k W W') : Book k r W' :=
  ⟨hk.same _ _ (Nat.le_succ k) h.loop rfl, hk.same _ _ (Nat.le_refl k) h.late rfl⟩
theorem Book.put {k : Nat} {r r' : Loop} {W : World} (h : Book k r W) : Book k r' (W.putObj (k + 1) (.loop r')) :=
  ⟨World.putObj_heap_same (Array.getElem?_eq_some_iff.1 h.loop).1, (World.putObj_heap_other (by omega)).trans h.late⟩

variable {F : Fence} {n : Nat} {P : Program}
set_option maxHeartbeats 1000000 in
theorem wpIn_range_only {α : Type} {g : Operand} {ps : Array Tmp} {assign body : Code} {Q : Exit → Act → World → Prop} {a : Act} {w : World}
    (hro : F.round = none) (h1 : 1 ≤ n) {gf : Nat} {lb : Array Value} (hg : a.eval g = .func (.func gf) #[] lb) (hFg : F.fn gf) (eg : ∀ args w, (callFunc gf args).run P w = .ok (.enter gf args) w)
    {encs : α → Array Value} {ok : α → Prop} {Kp : World → World → Prop} {S Sp : List α → Prop} {N : Nat} {T : TypeId} (hseq : StopsOnly F (n - 1) P gf lb encs T ok Kp S Sp N w)
    (hKt : ∀ {A B C : World}, Kp A B → Kp B C → Kp A C) (hKb : ∀ (W : World) (l : Nat) (o o' : Obj), w.heap.size ≤ l → W.heap[l]? = some o → o.isCells = false → o.isWalk = false → Kp W (W.putObj l o'))
    (hps : ∀ x, (encs x).size = ps.size)
    (I : List α → World → Prop) (Ix : Code → List α → World → Prop) (hI : OwnFrom w.heap.size I) (hIx : ∀ c, OwnFrom w.heap.size (Ix c)) (hIb : Stands T w.heap.size I) (h0 : I [] w)
    (Ax : α → Act → World → Prop) (hAx : ∀ x a', OwnFrom w.heap.size (fun (_ : Unit) W => Ax x a' W))
    (hassign : ∀ (l : Nat) (pre : List α) (x : α) (X : World) (K : Act → World → Prop), I pre X → ok x → (∀ a' W', KeepsFrom w.heap.size X W' → Kp X W' → I pre W' → Ax x a' W' → K a' W') → assign.wpIn (F.inRound l) (n - 1 - 1) P (Exit.then K (fun _ _ _ => False)) { tmps := (ps.zip (encs x)).foldl (fun t (p, v) => t.setIfInBounds p v) a.tmps, defers := [] } X)
    (hbody : ∀ (l : Nat) (pre : List α) (x : α) (a' : Act) (X : World), I pre X → Ax x a' X → pre.length < N → ok x → body.wpIn (F.inRound l) (n - 1 - 1) P (ownPostG w.heap.size Kp I Ix (pre ++ [x]) X) a' X)
    (hdone : ∀ (D : Nat) (xs : List α) (X : World), w.heap.size ≤ D → S xs → I xs X → X.heap[D]? = some (.deferred (some [])) → Q .normal { a with defers := { target := .collected D, args := #[] } :: a.defers } X)
    (hstop : ∀ (D : Nat) (c : Code) (pre : List α) (X : World), w.heap.size ≤ D → Sp pre → Ix c pre X → X.heap[D]? = some (.deferred (some [])) → c.wpIn F n P Q { a with defers := { target := .collected D, args := #[] } :: a.defers } X) :
    (Code.rangeFunc g ps assign body).wpIn F n P Q a w := by
  refine wpIn_rangeFunc ?_
  intro fn hfn
  rw [hro]
  obtain ⟨k, hk⟩ : ∃ k, w.heap.size = k := ⟨_, rfl⟩
  obtain ⟨r0, hr0⟩ : ∃ r0 : Loop, r0 = { state := .ready, pending := none, fn, tmps := a.tmps, params := ps, assign, body, defers := k } := ⟨_, rfl⟩
  have hbk : Book k r0 ((w.alloc (.deferred (some []))).alloc (.loop r0)) := by
    subst hk
    refine ⟨?_, (Below.heap_alloc _ _ _ (by simp)).trans (World.alloc_heap_new w _)⟩
    have := World.alloc_heap_new (w.alloc (.deferred (some []))) (.loop r0)
    rwa [World.size_alloc] at this
  have hi1 : I [] ((w.alloc (.deferred (some []))).alloc (.loop r0)) := hI.alloc _ (hI.alloc _ h0)
  have hb1 : Below k w ((w.alloc (.deferred (some []))).alloc (.loop r0)) := ((Below.refl _ w).alloc (by omega) _).alloc (by simp; omega) _
  have hen : (Instr.enterLoop fn a.tmps ps assign body none).run P w = .ok (k + 1, [{ target := .collected k, args := #[] }]) ((w.alloc (.deferred (some []))).alloc (.loop r0)) := by
    rw [hr0, ← hk]; exact run_enterLoop_outer _ _ _ _ _
  have hsz : ((w.alloc (.deferred (some []))).alloc (.loop r0)).heap.size = k + 2 := by simp; omega
  generalize ((w.alloc (.deferred (some []))).alloc (.loop r0)) = W1 at hbk hi1 hb1 hen hsz
  rw [hk] at hI hIx
  refine ⟨k + 1, _, W1, { target := .fn (.func gf) lb, args := #[.func (.yield (k + 1)) #[] #[]] }, W1, gf, #[.func (.yield (k + 1)) #[] #[]] ++ lb, W1, hen, ?_, ?_, ?_, fun _ => h1, ?_⟩
  · simp only [resolve, hg]; simp [go_sem]
  · intro f' hf'; simp [Target.leads] at hf'; subst hf'; exact hFg
  · simp [invoke, go_sem, eg]
  have up : ∀ {c : LoopState} {pe : Option Code}, Book k { r0 with state := c, pending := pe } = Book k { r0 with state := c, pending := pe } := rfl
  clear up
  refine (hseq (k + 1) (fun pre X => I pre X ∧ Book k r0 X) (fun pre X => ∃ c, Ix c pre X ∧ Book k { r0 with state := .done, pending := some c } X) W1 (by rw [hk]; exact hb1) ?_ ?_ ?_ ⟨hi1, hbk⟩).mono ?_
  · intro pre X Y row hs hg' hr
    exact ⟨hI pre X Y row hs.1 hg' (fun b e => by obtain ⟨h2, o, ho, hw⟩ := hr b e; exact ⟨by omega, o, ho, Obj.not_cells_of_walk hw⟩), hs.2.grown hg' (fun b e => (hr b e).2)⟩
  · intro pre X Y b cs hB hb ho hs
    exact ⟨hIb pre X Y b cs (by omega) hb ho hs.1, hs.2.only hb ho⟩
  · rintro pre x X ⟨hi, hb⟩ hlen hok
    have hy := run_yield (P := P) (args := encs x) hb.loop (by rw [hr0]; exact hps x)
    rw [hr0] at hy
    refine ⟨fn, _, assign, body, hy, roundIn_of_wpIn hfn (hassign _ pre x X _ hi hok ?_)⟩
    intro a' Wa hkfa hkpa hia hax
    have hb0 := hb
    replace hb := hb.from_ (hk ▸ hkfa)
    clear hi hy
    have hi := hia
    clear hia
    revert hkpa hkfa
    generalize X = Xb
    intro hkfa hkpa
    obtain ⟨X, rfl⟩ : ∃ X, X = Wa := ⟨_, rfl⟩
    refine ⟨_, run_beginRound hb.loop (by rw [hr0]), ?_⟩
    have hbz : Book k { r0 with state := .busy } (X.putObj (k + 1) (.loop { r0 with state := .busy })) := hb.put
    have hk1 : Kp X (X.putObj (k + 1) (.loop { r0 with state := .busy })) := hKb _ _ _ _ (by omega) hb.loop rfl rfl
    refine wpIn_mono (hbody _ pre x a' _ (hI.putObj _ hi (Nat.le_succ k) hb.loop rfl) ((hAx x a').putObj (s := ()) _ hax (by omega) hb.loop rfl) hlen hok) ?_
    rw [hk]
    rintro e a3 W3 hp
    have fin : ∀ (jump : Option Code), KeepsFrom k (X.putObj (k + 1) (.loop { r0 with state := .busy })) W3 →
        (Instr.endRound (k + 1) jump).run P W3 = .ok (.bool jump.isNone) (W3.putObj (k + 1) (.loop { r0 with state := if jump.isNone then .ready else .done, pending := jump })) ∧ W3.heap[k + 1]? = some (.loop { r0 with state := .busy }) ∧ Book k { r0 with state := if jump.isNone then .ready else .done, pending := jump } (W3.putObj (k + 1) (.loop { r0 with state := if jump.isNone then .ready else .done, pending := jump })) := fun jump hkf => by
      have h3 := hbz.from_ hkf
      have he := run_endRound (P := P) jump h3.loop
      exact ⟨he, h3.loop, h3.put⟩
    cases e with
    | normal =>
      obtain ⟨hkf, hkp, hi3⟩ := hp
      obtain ⟨hr, hl, hbb⟩ := fin none hkf
      refine ⟨_, _, hr, .inl ⟨rfl, ⟨hI.putObj _ hi3 (Nat.le_succ k) hl rfl, ?_⟩, hKt hkpa (hKt (hKt hk1 hkp) (hKb _ _ _ _ (by omega) hl rfl rfl))⟩⟩
      rw [hr0] at hbb ⊢
      exact hbb
    | ret =>
      obtain ⟨hkf, hi3⟩ := hp
      obtain ⟨hr, hl, hbb⟩ := fin (some .ret) hkf
      exact ⟨_, _, hr, .inr ⟨rfl, .ret, (hIx _).putObj _ hi3 (Nat.le_succ k) hl rfl, hbb⟩⟩
    | exit id =>
      obtain ⟨hkf, hi3⟩ := hp
      obtain ⟨hr, hl, hbb⟩ := fin (some (.exit id)) hkf
      exact ⟨_, _, hr, .inr ⟨rfl, .exit id, (hIx _).putObj _ hi3 (Nat.le_succ k) hl rfl, hbb⟩⟩
    | goto t =>
      obtain ⟨hkf, hi3⟩ := hp
      obtain ⟨hr, hl, hbb⟩ := fin (some (.goto t)) hkf
      exact ⟨_, _, hr, .inr ⟨rfl, .goto t, (hIx _).putObj _ hi3 (Nat.le_succ k) hl rfl, hbb⟩⟩
    | panic ch => exact hp.elim
    | outgrown => exact hp.elim
  · rintro e W2 ⟨⟨v, rfl⟩, (⟨xs, hS, hi, hb⟩ | ⟨pre, hSp, c, hi, hb⟩)⟩
    · refine ⟨r0.pending, _, run_endLoop hb.loop (by rw [hr0]; simp), ?_⟩
      rw [hr0]
      exact hdone _ xs _ (by omega) hS (hI.putObj _ hi (Nat.le_succ k) hb.loop rfl) ((World.putObj_heap_other (by omega)).trans hb.late)
    · exact ⟨some c, _, run_endLoop hb.loop (by simp), hstop _ c pre _ (by omega) hSp ((hIx c).putObj _ hi (Nat.le_succ k) hb.loop rfl) ((World.putObj_heap_other (by omega)).trans hb.late)⟩
end Go.Proofs.YthbighnkohjfnaaGreatDoor

/-
  THE READER's BOX: nodes that are done, brackets that are open (the outermost first), how many nodes; rows that are owned, trees that are frozen.
-/
namespace Go.Proofs.YthbighnkohjfnaaGreatDoor
open Go.RowKit

/-- a bracket that is open: its kind, its place, its kids, and where they lie -/
structure Opn where
  k : Int
  p : Nat × Nat
  l : List Ek
  A : Option Addr
  c : Nat
def Opn.nd (x : Opn) : Nd := .mk x.k 0 0 ⟨#[]⟩ ⟨#[]⟩ (x.l.map (·.1)) (x.p.1 : Int) (x.p.2 : Int)
def Opn.ek (x : Opn) : Ek := (x.nd, x.A, x.c)
def Opn.v (x : Opn) : Value := .slice x.A x.l.length x.c
theorem Opn.kids_len (x : Opn) : x.nd.kids.length = x.l.length := by show (x.l.map _).length = _; rw [List.length_map]
def rowsR (vd vo : Value) (done : List Ek) (op : List Opn) : List (Value × List Ek) := (vd, done) :: (vo, op.map Opn.ek) :: op.map fun x => (x.v, x.l)
/-- the reader's box and what it owns -/
structure RdS (lo : Nat) (W : World) (b : Nat) (vd vo : Value) (done : List Ek) (op : List Opn) (size t : Nat) : Prop where
  box : W.heap[b]? = some (.cells #[vd, vo, .int .i64 (size : Int)] 41 (0, 0))
  lv : Lv lo W (rowsR vd vo done op)
  dn : ∀ e ∈ done, SlN 50 W (Fz lo W (rowsR vd vo done op)) e.2.1 e.1.kids
  kd : ∀ (i : Nat) (x : Opn), op[i]? = some x → ∀ e ∈ x.l, SlN (49 - i) W (Fz lo W (rowsR vd vo done op)) e.2.1 e.1.kids
  deep : op.length ≤ 50
  dl : done.length ≤ t
  kl : ∀ x ∈ op, x.l.length ≤ t
section
variable {lo b size t : Nat} {W W' : World} {vd vo : Value} {done : List Ek} {op : List Opn}
theorem RdS.keep (h : RdS lo W b vd vo done op size t) (hk : KeepN W W') : RdS lo W' b vd vo done op size t :=
  ⟨(hk.rdr b _ h.box).trans h.box, h.lv.keep hk.toKeepNd, fun e he => (h.dn e he).keepN hk.toKeepNd, fun i x hx e he => (h.kd i x hx e he).keepN hk.toKeepNd, h.deep, h.dl, h.kl⟩
theorem RdS.next (h : RdS lo W b vd vo done op size t) (hb : Below W.heap.size W W') : RdS lo W' b vd vo done op size t := h.keep (KeepN.of_below hb)
theorem RdS.later (h : RdS lo W b vd vo done op size t) {t' : Nat} (ht : t ≤ t') : RdS lo W b vd vo done op size t' :=
  ⟨h.box, h.lv, h.dn, h.kd, h.deep, Nat.le_trans h.dl ht, fun x hx => Nat.le_trans (h.kl x hx) ht⟩
theorem RdS.lt (h : RdS lo W b vd vo done op size t) : b < W.heap.size := (Array.getElem?_eq_some_iff.1 h.box).1
theorem RdS.cell (h : RdS lo W b vd vo done op size t) (j : Nat) : W.cell? ⟨b, j, none⟩ = (#[vd, vo, Value.int .i64 (size : Int)])[j]? := by have := h.box; simp [World.cell?, this]
theorem RdS.fz (h : RdS lo W b vd vo done op size t) (j : Nat) : W.frozen? ⟨b, j, none⟩ = false := by have := h.box; simp [World.frozen?, this]
theorem RdS.rowD (h : RdS lo W b vd vo done op size t) : W.ownsRow lo 37 8 vd done.length (catN done) := h.lv.own 0 _ rfl
theorem RdS.rowO (h : RdS lo W b vd vo done op size t) : W.ownsRow lo 37 8 vo op.length (catN (op.map Opn.ek)) := by
  have := h.lv.own 1 _ rfl
  rwa [List.length_map] at this
theorem rowsR_kid (i : Nat) (x : Opn) (hx : op[i]? = some x) : (rowsR vd vo done op)[i + 2]? = some (x.v, x.l) := by
  show ((op.map fun x => (x.v, x.l)) : List (Value × List Ek))[i]? = _
  rw [List.getElem?_map, hx]
  rfl
theorem RdS.rowK (h : RdS lo W b vd vo done op size t) {i : Nat} {x : Opn} (hx : op[i]? = some x) : W.ownsRow lo 37 8 x.v x.l.length (catN x.l) := h.lv.own (i + 2) _ (rowsR_kid i x hx)
/-- a block of another type is no owned row -/
theorem row_ne {v : Value} {n : Nat} {xs : List Value} (h : W.ownsRow lo 37 8 v n xs) {g : Nat} {cs : Array Value} {T : TypeId} (hg : W.heap[g]? = some (.cells cs T (0, 0))) (hT : T ≠ 37) : some g ≠ v.ownBlock := fun e => by
  obtain ⟨cs', hc⟩ := ownsRow_node h e.symm
  rw [hg] at hc
  cases hc
  exact hT rfl
theorem RdS.box_row (h : RdS lo W b vd vo done op size t) {v : Value} {n : Nat} {xs : List Value} (ho : W.ownsRow lo 37 8 v n xs) : some b ≠ v.ownBlock := row_ne ho h.box (by decide)
/-- what grows a row of nodes keeps the rest -/
theorem KeepTx.grown {v : Value} {n : Nat} {xs : List Value} (ho : W.ownsRow lo 37 8 v n xs) (hg : W.grownBy W' v.ownBlock) : KeepTx W W' :=
  ⟨⟨hg.size, fun b _ _ hb h1 _ => hg.block b (Array.getElem?_eq_some_iff.1 hb).1 (row_ne ho hb h1)⟩, fun b o hb hc => hg.block b (Array.getElem?_eq_some_iff.1 hb).1 fun e => by
    obtain ⟨cs', h⟩ := ownsRow_node ho e.symm
    rw [hb] at h
    cases h
    cases hc⟩
theorem below_grown {v : Value} {n : Nat} {xs : List Value} (ho : W.ownsRow lo 37 8 v n xs) (hg : W.grownBy W' v.ownBlock) (hlo : lo ≤ W.heap.size) : Below lo W W' :=
  (Below.refl lo W).grown hg hlo (fun k hk => (World.ownsRow.lt ho k hk).1)
/-- the reader's box is written -/
theorem KeepTx.setBox {j : Nat} {u : Value} {cs : Array Value} (hb : W.heap[b]? = some (.cells cs 41 (0, 0))) : KeepTx W (W.setCell ⟨b, j, none⟩ u) :=
  ⟨⟨(KeepsWalks.setCell W ⟨b, j, none⟩ u).size, fun g cs' T hg _ h2 => heap_setCell_other W ⟨b, j, none⟩ g u fun e => by
    have e : g = b := e
    subst e
    rw [hb] at hg
    cases hg
    exact h2 rfl⟩, fun g o hg hc => heap_setCell_other W ⟨b, j, none⟩ g u fun e => by
    have e : g = b := e
    subst e
    rw [hb] at hg
    cases hg
    cases hc⟩
theorem KeepN.setOther {g j : Nat} {u : Value} {cs : Array Value} {T : TypeId} (hg : W.heap[g]? = some (.cells cs T (0, 0))) (h1 : T ≠ 37) (h2 : T ≠ 41) : KeepN W (W.setCell ⟨g, j, none⟩ u) := by
  have key : ∀ (b : Nat) (cs' : Array Value) (T' : TypeId), W.heap[b]? = some (.cells cs' T' (0, 0)) → T' ≠ T → (W.setCell ⟨g, j, none⟩ u).heap[b]? = W.heap[b]? := fun b cs' T' hb hT => heap_setCell_other W ⟨g, j, none⟩ b u fun e => by
    have e : b = g := e
    subst e
    rw [hb] at hg
    cases hg
    exact hT rfl
  exact ⟨⟨(KeepsWalks.setCell W ⟨g, j, none⟩ u).size, fun b cs' hb => key b cs' _ hb (Ne.symm h1)⟩, fun b cs' hb => key b cs' _ hb (Ne.symm h2)⟩
theorem KeepNd.setBox {j : Nat} {u : Value} {cs : Array Value} (hb : W.heap[b]? = some (.cells cs 41 (0, 0))) : KeepNd W (W.setCell ⟨b, j, none⟩ u) :=
  ⟨(KeepsWalks.setCell W ⟨b, j, none⟩ u).size, fun g cs' hg => heap_setCell_other W ⟨b, j, none⟩ g u fun e => by
    have e : g = b := e
    subst e
    rw [hb] at hg
    cases hg⟩
/-- rows of nodes turn; the box stays -/
theorem RdS.turn {vd' vo' : Value} {done' : List Ek} {op' : List Opn} {size' t' : Nat} (h : RdS lo W b vd vo done op size t) (hbox : W'.heap[b]? = some (.cells #[vd', vo', .int .i64 (size' : Int)] 41 (0, 0))) (hl : Lv lo W' (rowsR vd' vo' done' op'))
    (hF : ∀ g, Fz lo W (rowsR vd vo done op) g → W'.heap[g]? = W.heap[g]? ∧ Fz lo W' (rowsR vd' vo' done' op') g)
    (hd : ∀ e ∈ done', e ∈ done ∨ SlN 50 W (Fz lo W (rowsR vd vo done op)) e.2.1 e.1.kids) (hk : ∀ (i : Nat) (x : Opn), op'[i]? = some x → ∀ e ∈ x.l, (∃ y, op[i]? = some y ∧ e ∈ y.l) ∨ SlN (49 - i) W (Fz lo W (rowsR vd vo done op)) e.2.1 e.1.kids)
    (hdeep : op'.length ≤ 50) (hdl : done'.length ≤ t') (hkl : ∀ x ∈ op', x.l.length ≤ t') : RdS lo W' b vd' vo' done' op' size' t' :=
  ⟨hbox, hl, fun e he => (hd e he).elim (fun h1 => (h.dn e h1).fz hF) (fun h1 => h1.fz hF), fun i x hx e he => (hk i x hx e he).elim (fun ⟨y, hy, hey⟩ => (h.kd i y hy e hey).fz hF) (fun h1 => h1.fz hF), hdeep, hdl, hkl⟩
end
theorem ek_cells (e : Ek) : catN [e] = cellsN e.1 (.slice e.2.1 e.1.kids.length e.2.2) := by show List.flatMap _ [e] = _; simp
/-- a bracket, with a kid more, that lie elsewhere -/
def Opn.with (x : Opn) (n : Ek) (A : Option Addr) (c : Nat) : Opn := ⟨x.k, x.p, x.l ++ [n], A, c⟩
theorem rowsR_with (vd vo : Value) (done : List Ek) (op : List Opn) (x : Opn) (n : Ek) (A : Option Addr) (c : Nat) :
    ((rowsR vd vo done (op ++ [x])).set (op.length + 2) (.slice A (x.l.length + 1) c, x.l ++ [n])).set 1 (vo, (op ++ [x.with n A c]).map Opn.ek) = rowsR vd vo done (op ++ [x.with n A c]) := by
  unfold rowsR
  have h : ∀ (f : Opn → Value × List Ek) (u : Value × List Ek), ((op ++ [x]).map f).set op.length u = op.map f ++ [u] := fun f u => by
    rw [List.map_append, List.set_append_right _ _ (by rw [List.length_map]; exact Nat.le_refl _)]
    simp
  show (vd, done) :: (vo, (op ++ [x.with n A c]).map Opn.ek) :: (((op ++ [x]).map fun x => (x.v, x.l)).set op.length (.slice A (x.l.length + 1) c, x.l ++ [n])) = _
  rw [h]
  have e : (op ++ [x.with n A c]).map (fun x => (x.v, x.l)) = op.map (fun x => (x.v, x.l)) ++ [(Value.slice A (x.l.length + 1) c, x.l ++ [n])] := by
    rw [List.map_append]
    congr 1
    show [_] = [_]
    unfold Opn.v Opn.with
    simp
  rw [e]
end Go.Proofs.YthbighnkohjfnaaGreatDoor
