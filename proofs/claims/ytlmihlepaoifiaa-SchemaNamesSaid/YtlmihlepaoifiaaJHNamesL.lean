/-
  THE LAW SchemaNames.
-/
import Derived.Test.YtlmihlepaoifiaaJHFew
import Derived.Test.YtlmihlepaoifiaaJHMap
import Derived.Test.YtlmihlepaoifiaaJAMakesL
namespace Go.Proofs.Ytlmihlepaoifiaa
open Go.RowKit Go.Shelf

instance : DecidablePred SpOk := fun s => by unfold SpOk; infer_instance
/-- what Holds asks of facts, and what it answers -/
def OkM (L : List FactP) (r : Int) : Prop := L.length ≤ 1000 ∧ sumS L ≤ 1400 ∧ (∀ f ∈ L, f.s.size ≤ maxLen ∧ f.l.length ≤ 9223372036854775807) ∧ (∀ f ∈ L, ∀ s ∈ f.l, SpOk s) ∧ holdsE L = r
theorem okm1 : OkM (fewF ++ mf1) 0 := ⟨by decide, by decide, by decide +kernel, by decide +kernel, nm1_h⟩
theorem okm2 : OkM (fewF ++ mf2) 72 := ⟨by decide, by decide, by decide +kernel, by decide +kernel, nm2_h⟩
theorem okm3 : OkM (fewF ++ mf3) 73 := ⟨by decide, by decide, by decide +kernel, by decide +kernel, nm3_h⟩
theorem okm4 : OkM (fewF ++ mf4) 71 := ⟨by decide, by decide, by decide +kernel, by decide +kernel, nm4_h⟩
theorem okm5 : OkM (fewF ++ mf5) 0 := ⟨by decide, by decide, by decide +kernel, by decide +kernel, nm5_h⟩
theorem okm6 : OkM (fewF ++ mf6) 0 := ⟨by decide, by decide, by decide +kernel, by decide +kernel, nm6_h⟩
theorem okm7 : OkM (fewF ++ mf7) 74 := ⟨by decide, by decide, by decide +kernel, by decide +kernel, nm7_h⟩
theorem okm8 : OkM (fewF ++ mf8) 75 := ⟨by decide, by decide, by decide +kernel, by decide +kernel, nm8_h⟩
theorem okm9 : OkM (fewF ++ mf9) 76 := ⟨by decide, by decide, by decide +kernel, by decide +kernel, nm9_h⟩
theorem okm10 : OkM (fewF ++ mf10) 70 := ⟨by decide, by decide, by decide +kernel, by decide +kernel, nm10_h⟩
theorem okm11 : OkM mf11 60 := ⟨by decide, by decide, by decide +kernel, by decide +kernel, nm11_h⟩
theorem sva_sp {W : World} {g : Nat} {s : Sp} (h : SpBx W g s) : SVa W (.slice (some ⟨g, 0, none⟩) 1 1) [s] := by
  refine ⟨_, 1, rfl, fun _ => ⟨g, 0, rfl, h.lt, fun j q hq => ?_⟩, Nat.le_refl _, by decide⟩
  cases j with
  | zero =>
    cases hq
    simp only [Nat.zero_mul, Nat.add_zero]
    exact ⟨h.c0, h.c1⟩
  | succ j => simp at hq
theorem more_new (W : World) (ps : List (FactP × Value)) (cs : Array Value) (hc : cs.toList = ps.flatMap cellsM) (hs : ∀ p ∈ ps, SVa W p.2 p.1.l) : MoreAt (W.alloc (.cells cs 30)) W.heap.size ps := by
  refine ⟨by simp, fun i u hu => ?_, fun p hp => (hs p hp).next ((Below.refl _ W).alloc (Nat.le_refl _) _)⟩
  have hh := heap_alloc_new W (.cells cs 30)
  rw [← hc, Array.getElem?_toList] at hu
  unfold World.cell?
  rw [hh]
  simpa using hu
/-- the two facts that are turned about -/
structure AB (W : World) (bA gA bB gB : Nat) (f : FactP) (s : Sp) : Prop where
  a : FcBx W bA nfA (.slice (some ⟨gA, 0, none⟩) 1 1)
  sa : SpBx W gA (0, 9)
  b : FcBx W bB f (.slice (some ⟨gB, 0, none⟩) 1 1)
  sb : SpBx W gB s
  o1 : gA < bA
  o2 : bA < gB
  o3 : gB < bB
theorem AB.next {W W' : World} {bA gA bB gB : Nat} {f : FactP} {s : Sp} (h : AB W bA gA bB gB f s) (hb : Below W.heap.size W W') : AB W' bA gA bB gB f s := ⟨h.a.next hb, h.sa.next hb, h.b.next hb, h.sb.next hb, h.o1, h.o2, h.o3⟩
theorem AB.span {W : World} {bA gA bB gB : Nat} {f : FactP} {s : Sp} (h : AB W bA gA bB gB f s) (x : Int) : AB (W.setCell ⟨gB, 0, none⟩ (.int .i64 x)) bA gA bB gB f (x, s.2) := by
  have ne : ∀ k, k ≠ gB → (W.setCell ⟨gB, 0, none⟩ (.int .i64 x)).heap[k]? = W.heap[k]? := fun k hk => Below.heap_setCell W ⟨gB, 0, none⟩ _ k hk
  have := h.o1
  have := h.o2
  have := h.o3
  refine ⟨(ne bA (by omega)).trans h.a, (ne gA (by omega)).trans h.sa, (ne bB (by omega)).trans h.b, ?_, h.o1, h.o2, h.o3⟩
  exact (heap_setCell_same _ _ _ _ _ _ h.sb).trans (by simp)
theorem AB.turn {W : World} {bA gA bB gB : Nat} {f : FactP} {s : Sp} (h : AB W bA gA bB gB f s) (k m : Int) (t : ByteArray) (x : Int) : AB ((((W.setCell ⟨bB, 2, none⟩ (.int .i64 k)).setCell ⟨bB, 3, none⟩ (.int .i64 m)).setCell ⟨bB, 4, none⟩ (.string t)).setCell ⟨bB, 0, none⟩ (.int .i64 x)) bA gA bB gB ⟨x, f.a, k, m, t, f.l⟩ s := by
  have ne : ∀ j, j ≠ bB → ((((W.setCell ⟨bB, 2, none⟩ (.int .i64 k)).setCell ⟨bB, 3, none⟩ (.int .i64 m)).setCell ⟨bB, 4, none⟩ (.string t)).setCell ⟨bB, 0, none⟩ (.int .i64 x)).heap[j]? = W.heap[j]? := fun j hj => by
    rw [Below.heap_setCell _ ⟨bB, 0, none⟩ _ j hj, Below.heap_setCell _ ⟨bB, 4, none⟩ _ j hj, Below.heap_setCell _ ⟨bB, 3, none⟩ _ j hj, Below.heap_setCell _ ⟨bB, 2, none⟩ _ j hj]
  have := h.o1
  have := h.o2
  have := h.o3
  refine ⟨(ne bA (by omega)).trans h.a, (ne gA (by omega)).trans h.sa, ?_, (ne gB (by omega)).trans h.sb, h.o1, h.o2, h.o3⟩
  exact (heap_setCell_same _ _ _ _ _ _ (heap_setCell_same _ _ _ _ _ _ (heap_setCell_same _ _ _ _ _ _ (heap_setCell_same _ _ _ _ _ _ h.b)))).trans (by simp)
theorem spBx_fz {W : World} {g : Nat} {s : Sp} (h : SpBx W g s) : W.frozen? ⟨g, 0, none⟩ = false := by unfold SpBx at h; simp [World.frozen?, h]
theorem fcBx_fz {W : World} {b : Nat} {f : FactP} {sv : Value} (h : FcBx W b f sv) (j : Nat) : W.frozen? ⟨b, j, none⟩ = false := by unfold FcBx at h; simp [World.frozen?, h]
set_option maxRecDepth 100000 in
set_option maxHeartbeats 16000000 in
theorem sNamesH_any (w : World) : Calls Try.prog 3 #[] w fun e w' => e = .returned (.bool true) ∧ Below w.heap.size w w' := by
  go_enter Try.func3, Try.ntmps3
  have HB0 : Hid (Below w.heap.size w w) := Below.refl _ _
  go_wp2_with fail
  refine (number_any 5 _).mono ?_
  rintro r w1 ⟨rfl, hb⟩
  replace HB0 := Lib.hid (HB0.out.trans (hb.mono HB0.out.size))
  clear hb
  go_wp2_with fail
  refine (factB_any 11 10 1 5 ⟨#[]⟩ _).mono ?_
  rintro r w2 ⟨⟨g2, rfl, hs, hgs⟩, hb⟩
  replace HB0 := Lib.hid (HB0.out.trans (hb.mono HB0.out.size))
  have HG2 := Lib.hid hs
  have HGS2 := Lib.hid hgs
  clear hs hgs hb
  obtain ⟨w3, hw3⟩ : ∃ X, w2.alloc (.cells #[.int .i64 11, .int .i64 10, .int .i64 1, .int .i64 5, .string ⟨#[]⟩, .slice (some ⟨g2, 0, none⟩) 1 1] 30) = X := ⟨_, rfl⟩
  have hal : Below w2.heap.size w2 w3 := by rw [← hw3]; exact (Below.refl _ _).alloc (Nat.le_refl _) _
  have HM : Hid (MoreAt w3 w2.heap.size [(⟨11, 10, 1, 5, ⟨#[]⟩, allS⟩, .slice (some ⟨g2, 0, none⟩) 1 1)]) := by
    rw [← hw3]
    refine more_new w2 _ _ rfl (fun p hp => ?_)
    simp only [List.mem_cons, List.not_mem_nil, or_false] at hp
    rcases hp with rfl
    · exact sva_sp HG2.out
  replace HG2 := Lib.hid (HG2.out.next hal)
  replace HB0 := Lib.hid (HB0.out.trans (hal.mono HB0.out.size))
  clear hal
  go_wp2_with fail
  try rw [hw3]
  clear hw3
  obtain ⟨L, hL⟩ : ∃ L, fewF ++ mf1 = L := ⟨_, rfl⟩
  have HOK : Hid (OkM L 0) := by rw [← hL]; exact okm1
  refine (fewM_any w2.heap.size [(⟨11, 10, 1, 5, ⟨#[]⟩, allS⟩, .slice (some ⟨g2, 0, none⟩) 1 1)] w3 HM.out (Nat.le_of_ble_eq_true rfl) (Nat.le_of_ble_eq_true rfl)).mono ?_
  rintro r w4 ⟨⟨Ax, cx, hr, hf⟩, hb⟩
  obtain rfl : r = .returned (.slice Ax L.length cx) := by rw [hr, ← hL]; rfl
  have HF : Hid (FVa w4 (.slice Ax L.length cx) L) := by rw [← hL]; exact hf
  clear hL hr hf
  replace HG2 := Lib.hid (HG2.out.next hb)
  replace HB0 := Lib.hid (HB0.out.trans (hb.mono HB0.out.size))
  clear hb
  go_wp2_with fail
  refine (holds_any Ax cx L w4 HF.out HOK.out.1 HOK.out.2.1 HOK.out.2.2.1 HOK.out.2.2.2.1).mono ?_
  rintro r w5 ⟨hr, hb⟩
  obtain rfl : r = .returned (.int .i64 0) := by rw [hr, HOK.out.2.2.2.2]
  clear hr HOK HF
  replace HG2 := Lib.hid (HG2.out.next hb)
  replace HB0 := Lib.hid (HB0.out.trans (hb.mono HB0.out.size))
  clear hb
  clear HG2 HGS2
  go_wp2_with fail
  refine (factB_any 11 10 3 0 ⟨#[120]⟩ _).mono ?_
  rintro r w6 ⟨⟨g6, rfl, hs, hgs⟩, hb⟩
  replace HB0 := Lib.hid (HB0.out.trans (hb.mono HB0.out.size))
  have HG6 := Lib.hid hs
  have HGS6 := Lib.hid hgs
  clear hs hgs hb
  obtain ⟨w7, hw7⟩ : ∃ X, w6.alloc (.cells #[.int .i64 11, .int .i64 10, .int .i64 3, .int .i64 0, .string ⟨#[120]⟩, .slice (some ⟨g6, 0, none⟩) 1 1] 30) = X := ⟨_, rfl⟩
  have hal : Below w6.heap.size w6 w7 := by rw [← hw7]; exact (Below.refl _ _).alloc (Nat.le_refl _) _
  have HM : Hid (MoreAt w7 w6.heap.size [(⟨11, 10, 3, 0, ⟨#[120]⟩, allS⟩, .slice (some ⟨g6, 0, none⟩) 1 1)]) := by
    rw [← hw7]
    refine more_new w6 _ _ rfl (fun p hp => ?_)
    simp only [List.mem_cons, List.not_mem_nil, or_false] at hp
    rcases hp with rfl
    · exact sva_sp HG6.out
  replace HG6 := Lib.hid (HG6.out.next hal)
  replace HB0 := Lib.hid (HB0.out.trans (hal.mono HB0.out.size))
  clear hal
  go_wp2_with fail
  try rw [hw7]
  clear hw7
  obtain ⟨L, hL⟩ : ∃ L, fewF ++ mf2 = L := ⟨_, rfl⟩
  have HOK : Hid (OkM L 72) := by rw [← hL]; exact okm2
  refine (fewM_any w6.heap.size [(⟨11, 10, 3, 0, ⟨#[120]⟩, allS⟩, .slice (some ⟨g6, 0, none⟩) 1 1)] w7 HM.out (Nat.le_of_ble_eq_true rfl) (Nat.le_of_ble_eq_true rfl)).mono ?_
  rintro r w8 ⟨⟨Ax, cx, hr, hf⟩, hb⟩
  obtain rfl : r = .returned (.slice Ax L.length cx) := by rw [hr, ← hL]; rfl
  have HF : Hid (FVa w8 (.slice Ax L.length cx) L) := by rw [← hL]; exact hf
  clear hL hr hf
  replace HG6 := Lib.hid (HG6.out.next hb)
  replace HB0 := Lib.hid (HB0.out.trans (hb.mono HB0.out.size))
  clear hb
  go_wp2_with fail
  refine (holds_any Ax cx L w8 HF.out HOK.out.1 HOK.out.2.1 HOK.out.2.2.1 HOK.out.2.2.2.1).mono ?_
  rintro r w9 ⟨hr, hb⟩
  obtain rfl : r = .returned (.int .i64 72) := by rw [hr, HOK.out.2.2.2.2]
  clear hr HOK HF
  replace HG6 := Lib.hid (HG6.out.next hb)
  replace HB0 := Lib.hid (HB0.out.trans (hb.mono HB0.out.size))
  clear hb
  clear HG6 HGS6
  go_wp2_with fail
  refine (number_any 5 _).mono ?_
  rintro r w10 ⟨rfl, hb⟩
  replace HB0 := Lib.hid (HB0.out.trans (hb.mono HB0.out.size))
  clear hb
  obtain ⟨w11, hw11⟩ : ∃ X, w10.alloc (.cells #[.int .i64 0, .int .i64 9] 34) = X := ⟨_, rfl⟩
  have hal : Below w10.heap.size w10 w11 := by rw [← hw11]; exact (Below.refl _ _).alloc (Nat.le_refl _) _
  have HSA : Hid (SpBx w11 w10.heap.size (0, 9)) := by rw [← hw11]; exact spBx_new w10 (0, 9)
  obtain ⟨gA, hgA⟩ : ∃ g, w10.heap.size = g := ⟨_, rfl⟩
  rw [hgA] at HSA
  replace HB0 := Lib.hid (HB0.out.trans (hal.mono HB0.out.size))
  clear hal
  obtain ⟨w12, hw12⟩ : ∃ X, w11.alloc (.cells #[.int .i64 11, .int .i64 10, .int .i64 1, .int .i64 5, .string ⟨#[]⟩, .slice (some ⟨gA, 0, none⟩) 1 1] 30) = X := ⟨_, rfl⟩
  have hal : Below w11.heap.size w11 w12 := by rw [← hw12]; exact (Below.refl _ _).alloc (Nat.le_refl _) _
  have HA : Hid (FcBx w12 w11.heap.size nfA (.slice (some ⟨gA, 0, none⟩) 1 1)) := by rw [← hw12]; exact fcBx_new w11 nfA _
  have HO1 : Hid (gA < w11.heap.size) := HSA.out.lt
  obtain ⟨bA, hbA⟩ : ∃ b, w11.heap.size = b := ⟨_, rfl⟩
  rw [hbA] at HA HO1
  replace HSA := Lib.hid (HSA.out.next hal)
  replace HB0 := Lib.hid (HB0.out.trans (hal.mono HB0.out.size))
  clear hal
  go_wp2_with fail
  try rw [hw11]
  try rw [hgA]
  try rw [hw12]
  try rw [hbA]
  clear hw11 hw12 hgA hbA
  refine (number_any 6 _).mono ?_
  rintro r w13 ⟨rfl, hb⟩
  replace HSA := Lib.hid (HSA.out.next hb)
  replace HA := Lib.hid (HA.out.next hb)
  replace HB0 := Lib.hid (HB0.out.trans (hb.mono HB0.out.size))
  clear hb
  obtain ⟨w14, hw14⟩ : ∃ X, w13.alloc (.cells #[.int .i64 8, .int .i64 20] 34) = X := ⟨_, rfl⟩
  have hal : Below w13.heap.size w13 w14 := by rw [← hw14]; exact (Below.refl _ _).alloc (Nat.le_refl _) _
  have HSB : Hid (SpBx w14 w13.heap.size (8, 20)) := by rw [← hw14]; exact spBx_new w13 (8, 20)
  have HO2 : Hid (bA < w13.heap.size) := (Array.getElem?_eq_some_iff.1 HA.out).1
  obtain ⟨gB, hgB⟩ : ∃ g, w13.heap.size = g := ⟨_, rfl⟩
  rw [hgB] at HSB HO2
  have HGW : Hid (w.heap.size ≤ gB) := by show _ ≤ _; rw [← hgB]; exact HB0.out.size
  replace HSA := Lib.hid (HSA.out.next hal)
  replace HA := Lib.hid (HA.out.next hal)
  replace HB0 := Lib.hid (HB0.out.trans (hal.mono HB0.out.size))
  clear hal
  obtain ⟨w15, hw15⟩ : ∃ X, w14.alloc (.cells #[.int .i64 11, .int .i64 10, .int .i64 1, .int .i64 6, .string ⟨#[]⟩, .slice (some ⟨gB, 0, none⟩) 1 1] 30) = X := ⟨_, rfl⟩
  have hal : Below w14.heap.size w14 w15 := by rw [← hw15]; exact (Below.refl _ _).alloc (Nat.le_refl _) _
  have HBB : Hid (FcBx w15 w14.heap.size ⟨11, 10, 1, 6, ⟨#[]⟩, []⟩ (.slice (some ⟨gB, 0, none⟩) 1 1)) := by rw [← hw15]; exact fcBx_new w14 ⟨11, 10, 1, 6, ⟨#[]⟩, []⟩ _
  have HO3 : Hid (gB < w14.heap.size) := HSB.out.lt
  obtain ⟨bB, hbB⟩ : ∃ b, w14.heap.size = b := ⟨_, rfl⟩
  rw [hbB] at HBB HO3
  replace HSA := Lib.hid (HSA.out.next hal)
  replace HA := Lib.hid (HA.out.next hal)
  replace HSB := Lib.hid (HSB.out.next hal)
  replace HB0 := Lib.hid (HB0.out.trans (hal.mono HB0.out.size))
  clear hal
  have HAB : Hid (AB w15 bA gA bB gB ⟨11, 10, 1, 6, ⟨#[]⟩, []⟩ (8, 20)) := ⟨HA.out, HSA.out, HBB.out, HSB.out, HO1.out, HO2.out, HO3.out⟩
  clear HA HSA HBB HSB HO1 HO2 HO3
  go_upto_region 5 with (fail)
  try rw [hw14]
  try rw [hgB]
  try rw [hw15]
  try rw [hbB]
  clear hw14 hw15 hgB hbB
  have a0 : w15.cell? ⟨bA, 0, none⟩ = some (.int .i64 11) := HAB.out.a.k0
  have a1 : w15.cell? ⟨bA, 1, none⟩ = some (.int .i64 10) := HAB.out.a.k1
  have a2 : w15.cell? ⟨bA, 2, none⟩ = some (.int .i64 1) := HAB.out.a.k2
  have a3 : w15.cell? ⟨bA, 3, none⟩ = some (.int .i64 5) := HAB.out.a.k3
  have a4 : w15.cell? ⟨bA, 4, none⟩ = some (.string ⟨#[]⟩) := HAB.out.a.k4
  have a5 : w15.cell? ⟨bA, 5, none⟩ = some (.slice (some ⟨gA, 0, none⟩) 1 1) := HAB.out.a.k5
  have b0 : w15.cell? ⟨bB, 0, none⟩ = some (.int .i64 11) := HAB.out.b.k0
  have b1 : w15.cell? ⟨bB, 1, none⟩ = some (.int .i64 10) := HAB.out.b.k1
  have b2 : w15.cell? ⟨bB, 2, none⟩ = some (.int .i64 1) := HAB.out.b.k2
  have b3 : w15.cell? ⟨bB, 3, none⟩ = some (.int .i64 6) := HAB.out.b.k3
  have b4 : w15.cell? ⟨bB, 4, none⟩ = some (.string ⟨#[]⟩) := HAB.out.b.k4
  have b5 : w15.cell? ⟨bB, 5, none⟩ = some (.slice (some ⟨gB, 0, none⟩) 1 1) := HAB.out.b.k5
  obtain ⟨w16, hw16⟩ : ∃ X, w15.alloc (.cells #[.int .i64 11, .int .i64 10, .int .i64 1, .int .i64 5, .string ⟨#[]⟩, .slice (some ⟨gA, 0, none⟩) 1 1, .int .i64 11, .int .i64 10, .int .i64 1, .int .i64 6, .string ⟨#[]⟩, .slice (some ⟨gB, 0, none⟩) 1 1] 30) = X := ⟨_, rfl⟩
  have hal : Below w15.heap.size w15 w16 := by rw [← hw16]; exact (Below.refl _ _).alloc (Nat.le_refl _) _
  have HM : Hid (MoreAt w16 w15.heap.size [(⟨11, 10, 1, 5, ⟨#[]⟩, [(0, 9)]⟩, .slice (some ⟨gA, 0, none⟩) 1 1), (⟨11, 10, 1, 6, ⟨#[]⟩, [(8, 20)]⟩, .slice (some ⟨gB, 0, none⟩) 1 1)]) := by
    rw [← hw16]
    refine more_new w15 _ _ rfl (fun p hp => ?_)
    simp only [List.mem_cons, List.not_mem_nil, or_false] at hp
    rcases hp with rfl | rfl
    · exact sva_sp HAB.out.sa
    · exact sva_sp HAB.out.sb
  replace HAB := Lib.hid (HAB.out.next hal)
  replace HB0 := Lib.hid (HB0.out.trans (hal.mono HB0.out.size))
  clear hal
  go_wp2_with fail
  try rw [hw16]
  clear hw16
  obtain ⟨L, hL⟩ : ∃ L, fewF ++ mf3 = L := ⟨_, rfl⟩
  have HOK : Hid (OkM L 73) := by rw [← hL]; exact okm3
  refine (fewM_any w15.heap.size [(⟨11, 10, 1, 5, ⟨#[]⟩, [(0, 9)]⟩, .slice (some ⟨gA, 0, none⟩) 1 1), (⟨11, 10, 1, 6, ⟨#[]⟩, [(8, 20)]⟩, .slice (some ⟨gB, 0, none⟩) 1 1)] w16 HM.out (Nat.le_of_ble_eq_true rfl) (Nat.le_of_ble_eq_true rfl)).mono ?_
  rintro r w17 ⟨⟨Ax, cx, hr, hf⟩, hb⟩
  obtain rfl : r = .returned (.slice Ax L.length cx) := by rw [hr, ← hL]; rfl
  have HF : Hid (FVa w17 (.slice Ax L.length cx) L) := by rw [← hL]; exact hf
  clear hL hr hf
  replace HAB := Lib.hid (HAB.out.next hb)
  replace HB0 := Lib.hid (HB0.out.trans (hb.mono HB0.out.size))
  clear hb
  go_wp2_with fail
  refine (holds_any Ax cx L w17 HF.out HOK.out.1 HOK.out.2.1 HOK.out.2.2.1 HOK.out.2.2.2.1).mono ?_
  rintro r w18 ⟨hr, hb⟩
  obtain rfl : r = .returned (.int .i64 73) := by rw [hr, HOK.out.2.2.2.2]
  clear hr HOK HF
  replace HAB := Lib.hid (HAB.out.next hb)
  replace HB0 := Lib.hid (HB0.out.trans (hb.mono HB0.out.size))
  clear hb
  clear a0 a1 a2 a3 a4 a5 b0 b1 b2 b3 b4 b5
  go_wp2_with fail
  refine (number_any 5 _).mono ?_
  rintro r w19 ⟨rfl, hb⟩
  replace HAB := Lib.hid (HAB.out.next hb)
  replace HB0 := Lib.hid (HB0.out.trans (hb.mono HB0.out.size))
  clear hb
  go_wp2_with fail
  refine (factB_any 11 99 1 5 ⟨#[]⟩ _).mono ?_
  rintro r w20 ⟨⟨g20, rfl, hs, hgs⟩, hb⟩
  replace HAB := Lib.hid (HAB.out.next hb)
  replace HB0 := Lib.hid (HB0.out.trans (hb.mono HB0.out.size))
  have HG20 := Lib.hid hs
  have HGS20 := Lib.hid hgs
  clear hs hgs hb
  obtain ⟨w21, hw21⟩ : ∃ X, w20.alloc (.cells #[.int .i64 11, .int .i64 99, .int .i64 1, .int .i64 5, .string ⟨#[]⟩, .slice (some ⟨g20, 0, none⟩) 1 1] 30) = X := ⟨_, rfl⟩
  have hal : Below w20.heap.size w20 w21 := by rw [← hw21]; exact (Below.refl _ _).alloc (Nat.le_refl _) _
  have HM : Hid (MoreAt w21 w20.heap.size [(⟨11, 99, 1, 5, ⟨#[]⟩, allS⟩, .slice (some ⟨g20, 0, none⟩) 1 1)]) := by
    rw [← hw21]
    refine more_new w20 _ _ rfl (fun p hp => ?_)
    simp only [List.mem_cons, List.not_mem_nil, or_false] at hp
    rcases hp with rfl
    · exact sva_sp HG20.out
  replace HAB := Lib.hid (HAB.out.next hal)
  replace HG20 := Lib.hid (HG20.out.next hal)
  replace HB0 := Lib.hid (HB0.out.trans (hal.mono HB0.out.size))
  clear hal
  go_wp2_with fail
  try rw [hw21]
  clear hw21
  obtain ⟨L, hL⟩ : ∃ L, fewF ++ mf4 = L := ⟨_, rfl⟩
  have HOK : Hid (OkM L 71) := by rw [← hL]; exact okm4
  refine (fewM_any w20.heap.size [(⟨11, 99, 1, 5, ⟨#[]⟩, allS⟩, .slice (some ⟨g20, 0, none⟩) 1 1)] w21 HM.out (Nat.le_of_ble_eq_true rfl) (Nat.le_of_ble_eq_true rfl)).mono ?_
  rintro r w22 ⟨⟨Ax, cx, hr, hf⟩, hb⟩
  obtain rfl : r = .returned (.slice Ax L.length cx) := by rw [hr, ← hL]; rfl
  have HF : Hid (FVa w22 (.slice Ax L.length cx) L) := by rw [← hL]; exact hf
  clear hL hr hf
  replace HAB := Lib.hid (HAB.out.next hb)
  replace HG20 := Lib.hid (HG20.out.next hb)
  replace HB0 := Lib.hid (HB0.out.trans (hb.mono HB0.out.size))
  clear hb
  go_wp2_with fail
  refine (holds_any Ax cx L w22 HF.out HOK.out.1 HOK.out.2.1 HOK.out.2.2.1 HOK.out.2.2.2.1).mono ?_
  rintro r w23 ⟨hr, hb⟩
  obtain rfl : r = .returned (.int .i64 71) := by rw [hr, HOK.out.2.2.2.2]
  clear hr HOK HF
  replace HAB := Lib.hid (HAB.out.next hb)
  replace HG20 := Lib.hid (HG20.out.next hb)
  replace HB0 := Lib.hid (HB0.out.trans (hb.mono HB0.out.size))
  clear hb
  clear HG20 HGS20
  have b5 := HAB.out.b.k5
  have s0 := HAB.out.sb.c0
  have s1 := HAB.out.sb.c1
  have sf := spBx_fz HAB.out.sb
  go_upto_region 8 with (fail)
  clear b5 s0 s1 sf
  obtain ⟨w24, hw24⟩ : ∃ X, w23.setCell ⟨gB, 0, none⟩ (.int .i64 9) = X := ⟨_, rfl⟩
  replace HAB : Hid (AB w24 bA gA bB gB ⟨11, 10, 1, 6, ⟨#[]⟩, []⟩ (9, 20)) := by rw [← hw24]; exact HAB.out.span 9
  have HSZ : Hid (w.heap.size ≤ gB) := HGW.out
  replace HB0 : Hid (Below w.heap.size w w24) := by rw [← hw24]; exact HB0.out.setCell (p := ⟨gB, 0, none⟩) HGW.out _
  try rw [hw24]
  clear hw24 HSZ
  have a0 : w24.cell? ⟨bA, 0, none⟩ = some (.int .i64 11) := HAB.out.a.k0
  have a1 : w24.cell? ⟨bA, 1, none⟩ = some (.int .i64 10) := HAB.out.a.k1
  have a2 : w24.cell? ⟨bA, 2, none⟩ = some (.int .i64 1) := HAB.out.a.k2
  have a3 : w24.cell? ⟨bA, 3, none⟩ = some (.int .i64 5) := HAB.out.a.k3
  have a4 : w24.cell? ⟨bA, 4, none⟩ = some (.string ⟨#[]⟩) := HAB.out.a.k4
  have a5 : w24.cell? ⟨bA, 5, none⟩ = some (.slice (some ⟨gA, 0, none⟩) 1 1) := HAB.out.a.k5
  have b0 : w24.cell? ⟨bB, 0, none⟩ = some (.int .i64 11) := HAB.out.b.k0
  have b1 : w24.cell? ⟨bB, 1, none⟩ = some (.int .i64 10) := HAB.out.b.k1
  have b2 : w24.cell? ⟨bB, 2, none⟩ = some (.int .i64 1) := HAB.out.b.k2
  have b3 : w24.cell? ⟨bB, 3, none⟩ = some (.int .i64 6) := HAB.out.b.k3
  have b4 : w24.cell? ⟨bB, 4, none⟩ = some (.string ⟨#[]⟩) := HAB.out.b.k4
  have b5 : w24.cell? ⟨bB, 5, none⟩ = some (.slice (some ⟨gB, 0, none⟩) 1 1) := HAB.out.b.k5
  obtain ⟨w25, hw25⟩ : ∃ X, w24.alloc (.cells #[.int .i64 11, .int .i64 10, .int .i64 1, .int .i64 5, .string ⟨#[]⟩, .slice (some ⟨gA, 0, none⟩) 1 1, .int .i64 11, .int .i64 10, .int .i64 1, .int .i64 6, .string ⟨#[]⟩, .slice (some ⟨gB, 0, none⟩) 1 1] 30) = X := ⟨_, rfl⟩
  have hal : Below w24.heap.size w24 w25 := by rw [← hw25]; exact (Below.refl _ _).alloc (Nat.le_refl _) _
  have HM : Hid (MoreAt w25 w24.heap.size [(⟨11, 10, 1, 5, ⟨#[]⟩, [(0, 9)]⟩, .slice (some ⟨gA, 0, none⟩) 1 1), (⟨11, 10, 1, 6, ⟨#[]⟩, [(9, 20)]⟩, .slice (some ⟨gB, 0, none⟩) 1 1)]) := by
    rw [← hw25]
    refine more_new w24 _ _ rfl (fun p hp => ?_)
    simp only [List.mem_cons, List.not_mem_nil, or_false] at hp
    rcases hp with rfl | rfl
    · exact sva_sp HAB.out.sa
    · exact sva_sp HAB.out.sb
  replace HAB := Lib.hid (HAB.out.next hal)
  replace HB0 := Lib.hid (HB0.out.trans (hal.mono HB0.out.size))
  clear hal
  go_wp2_with fail
  try rw [hw25]
  clear hw25
  obtain ⟨L, hL⟩ : ∃ L, fewF ++ mf5 = L := ⟨_, rfl⟩
  have HOK : Hid (OkM L 0) := by rw [← hL]; exact okm5
  refine (fewM_any w24.heap.size [(⟨11, 10, 1, 5, ⟨#[]⟩, [(0, 9)]⟩, .slice (some ⟨gA, 0, none⟩) 1 1), (⟨11, 10, 1, 6, ⟨#[]⟩, [(9, 20)]⟩, .slice (some ⟨gB, 0, none⟩) 1 1)] w25 HM.out (Nat.le_of_ble_eq_true rfl) (Nat.le_of_ble_eq_true rfl)).mono ?_
  rintro r w26 ⟨⟨Ax, cx, hr, hf⟩, hb⟩
  obtain rfl : r = .returned (.slice Ax L.length cx) := by rw [hr, ← hL]; rfl
  have HF : Hid (FVa w26 (.slice Ax L.length cx) L) := by rw [← hL]; exact hf
  clear hL hr hf
  replace HAB := Lib.hid (HAB.out.next hb)
  replace HB0 := Lib.hid (HB0.out.trans (hb.mono HB0.out.size))
  clear hb
  go_wp2_with fail
  refine (holds_any Ax cx L w26 HF.out HOK.out.1 HOK.out.2.1 HOK.out.2.2.1 HOK.out.2.2.2.1).mono ?_
  rintro r w27 ⟨hr, hb⟩
  obtain rfl : r = .returned (.int .i64 0) := by rw [hr, HOK.out.2.2.2.2]
  clear hr HOK HF
  replace HAB := Lib.hid (HAB.out.next hb)
  replace HB0 := Lib.hid (HB0.out.trans (hb.mono HB0.out.size))
  clear hb
  clear a0 a1 a2 a3 a4 a5 b0 b1 b2 b3 b4 b5
  go_wp2_with fail
  refine (number_any 1 _).mono ?_
  rintro r w28 ⟨rfl, hb⟩
  replace HAB := Lib.hid (HAB.out.next hb)
  replace HB0 := Lib.hid (HB0.out.trans (hb.mono HB0.out.size))
  clear hb
  have HBG : Hid (bB < w28.heap.size) := (Array.getElem?_eq_some_iff.1 HAB.out.b).1
  go_wp2_with fail
  refine (factB_any 10 4 1 1 ⟨#[]⟩ _).mono ?_
  rintro r w29 ⟨⟨g29, rfl, hs, hgs⟩, hb⟩
  replace HAB := Lib.hid (HAB.out.next hb)
  replace HB0 := Lib.hid (HB0.out.trans (hb.mono HB0.out.size))
  have HG29 := Lib.hid hs
  have HGS29 := Lib.hid hgs
  clear hs hgs hb
  have HGSU := HGS29
  obtain ⟨w30, hw30⟩ : ∃ X, w29.alloc (.cells #[.int .i64 10, .int .i64 4, .int .i64 1, .int .i64 1, .string ⟨#[]⟩, .slice (some ⟨g29, 0, none⟩) 1 1] 30) = X := ⟨_, rfl⟩
  have hal : Below w29.heap.size w29 w30 := by rw [← hw30]; exact (Below.refl _ _).alloc (Nat.le_refl _) _
  have HUB : Hid (FcBx w30 w29.heap.size nfU (.slice (some ⟨g29, 0, none⟩) 1 1)) := by rw [← hw30]; exact fcBx_new w29 nfU _
  have HUO : Hid (bB < g29 ∧ bB < w29.heap.size) := ⟨Nat.lt_of_lt_of_le HBG.out HGSU.out, (Array.getElem?_eq_some_iff.1 HAB.out.b).1⟩
  obtain ⟨bU, hbU⟩ : ∃ b, w29.heap.size = b := ⟨_, rfl⟩
  rw [hbU] at HUB HUO
  replace HAB := Lib.hid (HAB.out.next hal)
  replace HG29 := Lib.hid (HG29.out.next hal)
  replace HB0 := Lib.hid (HB0.out.trans (hal.mono HB0.out.size))
  clear hal
  go_wp2_with fail
  try rw [hw30]
  try rw [hbU]
  clear hw30 hbU
  refine (number_any 5 _).mono ?_
  rintro r w31 ⟨rfl, hb⟩
  replace HAB := Lib.hid (HAB.out.next hb)
  replace HG29 := Lib.hid (HG29.out.next hb)
  replace HUB := Lib.hid (HUB.out.next hb)
  replace HB0 := Lib.hid (HB0.out.trans (hb.mono HB0.out.size))
  clear hb
  have b0 := HAB.out.b.k0
  have b1 := HAB.out.b.k1
  have b2 := HAB.out.b.k2
  have b3 := HAB.out.b.k3
  have b4 := HAB.out.b.k4
  have b5 := HAB.out.b.k5
  have f0 := fcBx_fz HAB.out.b 0
  have f2 := fcBx_fz HAB.out.b 2
  have f3 := fcBx_fz HAB.out.b 3
  have f4 := fcBx_fz HAB.out.b 4
  go_upto_region 12 with (fail)
  clear b0 b1 b2 b3 b4 b5 f0 f2 f3 f4
  obtain ⟨w32, hw32⟩ : ∃ X, (((w31.setCell ⟨bB, 2, none⟩ (.int .i64 1)).setCell ⟨bB, 3, none⟩ (.int .i64 5)).setCell ⟨bB, 4, none⟩ (.string ⟨#[]⟩)).setCell ⟨bB, 0, none⟩ (.int .i64 12) = X := ⟨_, rfl⟩
  replace HAB : Hid (AB w32 bA gA bB gB ⟨12, 10, 1, 5, ⟨#[]⟩, []⟩ (9, 20)) := by rw [← hw32]; exact HAB.out.turn 1 5 ⟨#[]⟩ 12
  replace HB0 : Hid (Below w.heap.size w w32) := by
    rw [← hw32]
    have h1 := HGW.out
    have h2 := HAB.out.o3
    exact (((HB0.out.setCell (p := ⟨bB, 2, none⟩) (by show _ ≤ bB; omega) _).setCell (p := ⟨bB, 3, none⟩) (by show _ ≤ bB; omega) _).setCell (p := ⟨bB, 4, none⟩) (by show _ ≤ bB; omega) _).setCell (p := ⟨bB, 0, none⟩) (by show _ ≤ bB; omega) _
  have HNU : Hid (bU ≠ bB ∧ g29 ≠ bB ∧ bU ≠ gB ∧ g29 ≠ gB) := by
    have h1 := HUO.out
    have h2 := HAB.out.o3
    exact ⟨by omega, by omega, by omega, by omega⟩
  replace HUB : Hid (FcBx w32 bU nfU (.slice (some ⟨g29, 0, none⟩) 1 1)) := by rw [← hw32]; exact (((HUB.out.set_ne HNU.out.1).set_ne HNU.out.1).set_ne HNU.out.1).set_ne HNU.out.1
  replace HG29 : Hid (SpBx w32 g29 (minT, maxT)) := by rw [← hw32]; exact (((HG29.out.set_ne HNU.out.2.1).set_ne HNU.out.2.1).set_ne HNU.out.2.1).set_ne HNU.out.2.1
  try rw [hw32]
  clear hw32
  have a0 : w32.cell? ⟨bA, 0, none⟩ = some (.int .i64 11) := HAB.out.a.k0
  have a1 : w32.cell? ⟨bA, 1, none⟩ = some (.int .i64 10) := HAB.out.a.k1
  have a2 : w32.cell? ⟨bA, 2, none⟩ = some (.int .i64 1) := HAB.out.a.k2
  have a3 : w32.cell? ⟨bA, 3, none⟩ = some (.int .i64 5) := HAB.out.a.k3
  have a4 : w32.cell? ⟨bA, 4, none⟩ = some (.string ⟨#[]⟩) := HAB.out.a.k4
  have a5 : w32.cell? ⟨bA, 5, none⟩ = some (.slice (some ⟨gA, 0, none⟩) 1 1) := HAB.out.a.k5
  have b0 : w32.cell? ⟨bB, 0, none⟩ = some (.int .i64 12) := HAB.out.b.k0
  have b1 : w32.cell? ⟨bB, 1, none⟩ = some (.int .i64 10) := HAB.out.b.k1
  have b2 : w32.cell? ⟨bB, 2, none⟩ = some (.int .i64 1) := HAB.out.b.k2
  have b3 : w32.cell? ⟨bB, 3, none⟩ = some (.int .i64 5) := HAB.out.b.k3
  have b4 : w32.cell? ⟨bB, 4, none⟩ = some (.string ⟨#[]⟩) := HAB.out.b.k4
  have b5 : w32.cell? ⟨bB, 5, none⟩ = some (.slice (some ⟨gB, 0, none⟩) 1 1) := HAB.out.b.k5
  have u0 : w32.cell? ⟨bU, 0, none⟩ = some (.int .i64 10) := HUB.out.k0
  have u1 : w32.cell? ⟨bU, 1, none⟩ = some (.int .i64 4) := HUB.out.k1
  have u2 : w32.cell? ⟨bU, 2, none⟩ = some (.int .i64 1) := HUB.out.k2
  have u3 : w32.cell? ⟨bU, 3, none⟩ = some (.int .i64 1) := HUB.out.k3
  have u4 : w32.cell? ⟨bU, 4, none⟩ = some (.string ⟨#[]⟩) := HUB.out.k4
  have u5 : w32.cell? ⟨bU, 5, none⟩ = some (.slice (some ⟨g29, 0, none⟩) 1 1) := HUB.out.k5
  obtain ⟨w33, hw33⟩ : ∃ X, w32.alloc (.cells #[.int .i64 10, .int .i64 4, .int .i64 1, .int .i64 1, .string ⟨#[]⟩, .slice (some ⟨g29, 0, none⟩) 1 1, .int .i64 11, .int .i64 10, .int .i64 1, .int .i64 5, .string ⟨#[]⟩, .slice (some ⟨gA, 0, none⟩) 1 1, .int .i64 12, .int .i64 10, .int .i64 1, .int .i64 5, .string ⟨#[]⟩, .slice (some ⟨gB, 0, none⟩) 1 1] 30) = X := ⟨_, rfl⟩
  have hal : Below w32.heap.size w32 w33 := by rw [← hw33]; exact (Below.refl _ _).alloc (Nat.le_refl _) _
  have HM : Hid (MoreAt w33 w32.heap.size [(⟨10, 4, 1, 1, ⟨#[]⟩, allS⟩, .slice (some ⟨g29, 0, none⟩) 1 1), (⟨11, 10, 1, 5, ⟨#[]⟩, [(0, 9)]⟩, .slice (some ⟨gA, 0, none⟩) 1 1), (⟨12, 10, 1, 5, ⟨#[]⟩, [(9, 20)]⟩, .slice (some ⟨gB, 0, none⟩) 1 1)]) := by
    rw [← hw33]
    refine more_new w32 _ _ rfl (fun p hp => ?_)
    simp only [List.mem_cons, List.not_mem_nil, or_false] at hp
    rcases hp with rfl | rfl | rfl
    · exact sva_sp HG29.out
    · exact sva_sp HAB.out.sa
    · exact sva_sp HAB.out.sb
  replace HAB := Lib.hid (HAB.out.next hal)
  replace HG29 := Lib.hid (HG29.out.next hal)
  replace HUB := Lib.hid (HUB.out.next hal)
  replace HB0 := Lib.hid (HB0.out.trans (hal.mono HB0.out.size))
  clear hal
  go_wp2_with fail
  try rw [hw33]
  clear hw33
  obtain ⟨L, hL⟩ : ∃ L, fewF ++ mf6 = L := ⟨_, rfl⟩
  have HOK : Hid (OkM L 0) := by rw [← hL]; exact okm6
  refine (fewM_any w32.heap.size [(⟨10, 4, 1, 1, ⟨#[]⟩, allS⟩, .slice (some ⟨g29, 0, none⟩) 1 1), (⟨11, 10, 1, 5, ⟨#[]⟩, [(0, 9)]⟩, .slice (some ⟨gA, 0, none⟩) 1 1), (⟨12, 10, 1, 5, ⟨#[]⟩, [(9, 20)]⟩, .slice (some ⟨gB, 0, none⟩) 1 1)] w33 HM.out (Nat.le_of_ble_eq_true rfl) (Nat.le_of_ble_eq_true rfl)).mono ?_
  rintro r w34 ⟨⟨Ax, cx, hr, hf⟩, hb⟩
  obtain rfl : r = .returned (.slice Ax L.length cx) := by rw [hr, ← hL]; rfl
  have HF : Hid (FVa w34 (.slice Ax L.length cx) L) := by rw [← hL]; exact hf
  clear hL hr hf
  replace HAB := Lib.hid (HAB.out.next hb)
  replace HG29 := Lib.hid (HG29.out.next hb)
  replace HUB := Lib.hid (HUB.out.next hb)
  replace HB0 := Lib.hid (HB0.out.trans (hb.mono HB0.out.size))
  clear hb
  go_wp2_with fail
  refine (holds_any Ax cx L w34 HF.out HOK.out.1 HOK.out.2.1 HOK.out.2.2.1 HOK.out.2.2.2.1).mono ?_
  rintro r w35 ⟨hr, hb⟩
  obtain rfl : r = .returned (.int .i64 0) := by rw [hr, HOK.out.2.2.2.2]
  clear hr HOK HF
  replace HAB := Lib.hid (HAB.out.next hb)
  replace HG29 := Lib.hid (HG29.out.next hb)
  replace HUB := Lib.hid (HUB.out.next hb)
  replace HB0 := Lib.hid (HB0.out.trans (hb.mono HB0.out.size))
  clear hb
  clear a0 a1 a2 a3 a4 a5 b0 b1 b2 b3 b4 b5 u0 u1 u2 u3 u4 u5
  have b5 := HAB.out.b.k5
  have s0 := HAB.out.sb.c0
  have s1 := HAB.out.sb.c1
  have sf := spBx_fz HAB.out.sb
  go_upto_region 14 with (fail)
  clear b5 s0 s1 sf
  obtain ⟨w36, hw36⟩ : ∃ X, w35.setCell ⟨gB, 0, none⟩ (.int .i64 8) = X := ⟨_, rfl⟩
  replace HAB : Hid (AB w36 bA gA bB gB ⟨12, 10, 1, 5, ⟨#[]⟩, []⟩ (8, 20)) := by rw [← hw36]; exact HAB.out.span 8
  replace HB0 : Hid (Below w.heap.size w w36) := by rw [← hw36]; exact HB0.out.setCell (p := ⟨gB, 0, none⟩) HGW.out _
  replace HUB : Hid (FcBx w36 bU nfU (.slice (some ⟨g29, 0, none⟩) 1 1)) := by rw [← hw36]; exact HUB.out.set_ne HNU.out.2.2.1
  replace HG29 : Hid (SpBx w36 g29 (minT, maxT)) := by rw [← hw36]; exact HG29.out.set_ne HNU.out.2.2.2
  try rw [hw36]
  clear hw36
  have a0 : w36.cell? ⟨bA, 0, none⟩ = some (.int .i64 11) := HAB.out.a.k0
  have a1 : w36.cell? ⟨bA, 1, none⟩ = some (.int .i64 10) := HAB.out.a.k1
  have a2 : w36.cell? ⟨bA, 2, none⟩ = some (.int .i64 1) := HAB.out.a.k2
  have a3 : w36.cell? ⟨bA, 3, none⟩ = some (.int .i64 5) := HAB.out.a.k3
  have a4 : w36.cell? ⟨bA, 4, none⟩ = some (.string ⟨#[]⟩) := HAB.out.a.k4
  have a5 : w36.cell? ⟨bA, 5, none⟩ = some (.slice (some ⟨gA, 0, none⟩) 1 1) := HAB.out.a.k5
  have b0 : w36.cell? ⟨bB, 0, none⟩ = some (.int .i64 12) := HAB.out.b.k0
  have b1 : w36.cell? ⟨bB, 1, none⟩ = some (.int .i64 10) := HAB.out.b.k1
  have b2 : w36.cell? ⟨bB, 2, none⟩ = some (.int .i64 1) := HAB.out.b.k2
  have b3 : w36.cell? ⟨bB, 3, none⟩ = some (.int .i64 5) := HAB.out.b.k3
  have b4 : w36.cell? ⟨bB, 4, none⟩ = some (.string ⟨#[]⟩) := HAB.out.b.k4
  have b5 : w36.cell? ⟨bB, 5, none⟩ = some (.slice (some ⟨gB, 0, none⟩) 1 1) := HAB.out.b.k5
  have u0 : w36.cell? ⟨bU, 0, none⟩ = some (.int .i64 10) := HUB.out.k0
  have u1 : w36.cell? ⟨bU, 1, none⟩ = some (.int .i64 4) := HUB.out.k1
  have u2 : w36.cell? ⟨bU, 2, none⟩ = some (.int .i64 1) := HUB.out.k2
  have u3 : w36.cell? ⟨bU, 3, none⟩ = some (.int .i64 1) := HUB.out.k3
  have u4 : w36.cell? ⟨bU, 4, none⟩ = some (.string ⟨#[]⟩) := HUB.out.k4
  have u5 : w36.cell? ⟨bU, 5, none⟩ = some (.slice (some ⟨g29, 0, none⟩) 1 1) := HUB.out.k5
  obtain ⟨w37, hw37⟩ : ∃ X, w36.alloc (.cells #[.int .i64 10, .int .i64 4, .int .i64 1, .int .i64 1, .string ⟨#[]⟩, .slice (some ⟨g29, 0, none⟩) 1 1, .int .i64 11, .int .i64 10, .int .i64 1, .int .i64 5, .string ⟨#[]⟩, .slice (some ⟨gA, 0, none⟩) 1 1, .int .i64 12, .int .i64 10, .int .i64 1, .int .i64 5, .string ⟨#[]⟩, .slice (some ⟨gB, 0, none⟩) 1 1] 30) = X := ⟨_, rfl⟩
  have hal : Below w36.heap.size w36 w37 := by rw [← hw37]; exact (Below.refl _ _).alloc (Nat.le_refl _) _
  have HM : Hid (MoreAt w37 w36.heap.size [(⟨10, 4, 1, 1, ⟨#[]⟩, allS⟩, .slice (some ⟨g29, 0, none⟩) 1 1), (⟨11, 10, 1, 5, ⟨#[]⟩, [(0, 9)]⟩, .slice (some ⟨gA, 0, none⟩) 1 1), (⟨12, 10, 1, 5, ⟨#[]⟩, [(8, 20)]⟩, .slice (some ⟨gB, 0, none⟩) 1 1)]) := by
    rw [← hw37]
    refine more_new w36 _ _ rfl (fun p hp => ?_)
    simp only [List.mem_cons, List.not_mem_nil, or_false] at hp
    rcases hp with rfl | rfl | rfl
    · exact sva_sp HG29.out
    · exact sva_sp HAB.out.sa
    · exact sva_sp HAB.out.sb
  replace HAB := Lib.hid (HAB.out.next hal)
  replace HG29 := Lib.hid (HG29.out.next hal)
  replace HUB := Lib.hid (HUB.out.next hal)
  replace HB0 := Lib.hid (HB0.out.trans (hal.mono HB0.out.size))
  clear hal
  go_wp2_with fail
  try rw [hw37]
  clear hw37
  obtain ⟨L, hL⟩ : ∃ L, fewF ++ mf7 = L := ⟨_, rfl⟩
  have HOK : Hid (OkM L 74) := by rw [← hL]; exact okm7
  refine (fewM_any w36.heap.size [(⟨10, 4, 1, 1, ⟨#[]⟩, allS⟩, .slice (some ⟨g29, 0, none⟩) 1 1), (⟨11, 10, 1, 5, ⟨#[]⟩, [(0, 9)]⟩, .slice (some ⟨gA, 0, none⟩) 1 1), (⟨12, 10, 1, 5, ⟨#[]⟩, [(8, 20)]⟩, .slice (some ⟨gB, 0, none⟩) 1 1)] w37 HM.out (Nat.le_of_ble_eq_true rfl) (Nat.le_of_ble_eq_true rfl)).mono ?_
  rintro r w38 ⟨⟨Ax, cx, hr, hf⟩, hb⟩
  obtain rfl : r = .returned (.slice Ax L.length cx) := by rw [hr, ← hL]; rfl
  have HF : Hid (FVa w38 (.slice Ax L.length cx) L) := by rw [← hL]; exact hf
  clear hL hr hf
  replace HAB := Lib.hid (HAB.out.next hb)
  replace HG29 := Lib.hid (HG29.out.next hb)
  replace HUB := Lib.hid (HUB.out.next hb)
  replace HB0 := Lib.hid (HB0.out.trans (hb.mono HB0.out.size))
  clear hb
  go_wp2_with fail
  refine (holds_any Ax cx L w38 HF.out HOK.out.1 HOK.out.2.1 HOK.out.2.2.1 HOK.out.2.2.2.1).mono ?_
  rintro r w39 ⟨hr, hb⟩
  obtain rfl : r = .returned (.int .i64 74) := by rw [hr, HOK.out.2.2.2.2]
  clear hr HOK HF
  replace HAB := Lib.hid (HAB.out.next hb)
  replace HG29 := Lib.hid (HG29.out.next hb)
  replace HUB := Lib.hid (HUB.out.next hb)
  replace HB0 := Lib.hid (HB0.out.trans (hb.mono HB0.out.size))
  clear hb
  clear a0 a1 a2 a3 a4 a5 b0 b1 b2 b3 b4 b5 u0 u1 u2 u3 u4 u5
  clear HAB HUB HG29 HNU HUO HGW
  obtain ⟨w40, hw40⟩ : ∃ X, w39.alloc (.cells #[.int .i64 0, .int .i64 9] 34) = X := ⟨_, rfl⟩
  have hal : Below w39.heap.size w39 w40 := by rw [← hw40]; exact (Below.refl _ _).alloc (Nat.le_refl _) _
  have HSC : Hid (SpBx w40 w39.heap.size (0, 9)) := by rw [← hw40]; exact spBx_new w39 (0, 9)
  obtain ⟨gC, hgC⟩ : ∃ g, w39.heap.size = g := ⟨_, rfl⟩
  rw [hgC] at HSC
  replace HB0 := Lib.hid (HB0.out.trans (hal.mono HB0.out.size))
  clear hal
  obtain ⟨w41, hw41⟩ : ∃ X, w40.alloc (.cells #[.int .i64 10, .int .i64 7, .int .i64 3, .int .i64 0, .string ⟨#[]⟩, .slice (some ⟨gC, 0, none⟩) 1 1] 30) = X := ⟨_, rfl⟩
  have hal : Below w40.heap.size w40 w41 := by rw [← hw41]; exact (Below.refl _ _).alloc (Nat.le_refl _) _
  have HM : Hid (MoreAt w41 w40.heap.size [(⟨10, 7, 3, 0, ⟨#[]⟩, [(0, 9)]⟩, .slice (some ⟨gC, 0, none⟩) 1 1)]) := by
    rw [← hw41]
    refine more_new w40 _ _ rfl (fun p hp => ?_)
    simp only [List.mem_cons, List.not_mem_nil, or_false] at hp
    rcases hp with rfl
    · exact sva_sp HSC.out
  replace HSC := Lib.hid (HSC.out.next hal)
  replace HB0 := Lib.hid (HB0.out.trans (hal.mono HB0.out.size))
  clear hal
  go_wp2_with fail
  try rw [hw40]
  try rw [hgC]
  try rw [hw41]
  clear hw41
  clear hw40 hgC
  obtain ⟨L, hL⟩ : ∃ L, fewF ++ mf8 = L := ⟨_, rfl⟩
  have HOK : Hid (OkM L 75) := by rw [← hL]; exact okm8
  refine (fewM_any w40.heap.size [(⟨10, 7, 3, 0, ⟨#[]⟩, [(0, 9)]⟩, .slice (some ⟨gC, 0, none⟩) 1 1)] w41 HM.out (Nat.le_of_ble_eq_true rfl) (Nat.le_of_ble_eq_true rfl)).mono ?_
  rintro r w42 ⟨⟨Ax, cx, hr, hf⟩, hb⟩
  obtain rfl : r = .returned (.slice Ax L.length cx) := by rw [hr, ← hL]; rfl
  have HF : Hid (FVa w42 (.slice Ax L.length cx) L) := by rw [← hL]; exact hf
  clear hL hr hf
  replace HSC := Lib.hid (HSC.out.next hb)
  replace HB0 := Lib.hid (HB0.out.trans (hb.mono HB0.out.size))
  clear hb
  go_wp2_with fail
  refine (holds_any Ax cx L w42 HF.out HOK.out.1 HOK.out.2.1 HOK.out.2.2.1 HOK.out.2.2.2.1).mono ?_
  rintro r w43 ⟨hr, hb⟩
  obtain rfl : r = .returned (.int .i64 75) := by rw [hr, HOK.out.2.2.2.2]
  clear hr HOK HF
  replace HSC := Lib.hid (HSC.out.next hb)
  replace HB0 := Lib.hid (HB0.out.trans (hb.mono HB0.out.size))
  clear hb
  clear HSC
  go_wp2_with fail
  refine (factB_any 10 5 2 1 ⟨#[]⟩ _).mono ?_
  rintro r w44 ⟨⟨g44, rfl, hs, hgs⟩, hb⟩
  replace HB0 := Lib.hid (HB0.out.trans (hb.mono HB0.out.size))
  have HG44 := Lib.hid hs
  have HGS44 := Lib.hid hgs
  clear hs hgs hb
  obtain ⟨w45, hw45⟩ : ∃ X, w44.alloc (.cells #[.int .i64 10, .int .i64 5, .int .i64 2, .int .i64 1, .string ⟨#[]⟩, .slice (some ⟨g44, 0, none⟩) 1 1] 30) = X := ⟨_, rfl⟩
  have hal : Below w44.heap.size w44 w45 := by rw [← hw45]; exact (Below.refl _ _).alloc (Nat.le_refl _) _
  have HM : Hid (MoreAt w45 w44.heap.size [(⟨10, 5, 2, 1, ⟨#[]⟩, allS⟩, .slice (some ⟨g44, 0, none⟩) 1 1)]) := by
    rw [← hw45]
    refine more_new w44 _ _ rfl (fun p hp => ?_)
    simp only [List.mem_cons, List.not_mem_nil, or_false] at hp
    rcases hp with rfl
    · exact sva_sp HG44.out
  replace HG44 := Lib.hid (HG44.out.next hal)
  replace HB0 := Lib.hid (HB0.out.trans (hal.mono HB0.out.size))
  clear hal
  go_wp2_with fail
  try rw [hw45]
  clear hw45
  obtain ⟨L, hL⟩ : ∃ L, fewF ++ mf9 = L := ⟨_, rfl⟩
  have HOK : Hid (OkM L 76) := by rw [← hL]; exact okm9
  refine (fewM_any w44.heap.size [(⟨10, 5, 2, 1, ⟨#[]⟩, allS⟩, .slice (some ⟨g44, 0, none⟩) 1 1)] w45 HM.out (Nat.le_of_ble_eq_true rfl) (Nat.le_of_ble_eq_true rfl)).mono ?_
  rintro r w46 ⟨⟨Ax, cx, hr, hf⟩, hb⟩
  obtain rfl : r = .returned (.slice Ax L.length cx) := by rw [hr, ← hL]; rfl
  have HF : Hid (FVa w46 (.slice Ax L.length cx) L) := by rw [← hL]; exact hf
  clear hL hr hf
  replace HG44 := Lib.hid (HG44.out.next hb)
  replace HB0 := Lib.hid (HB0.out.trans (hb.mono HB0.out.size))
  clear hb
  go_wp2_with fail
  refine (holds_any Ax cx L w46 HF.out HOK.out.1 HOK.out.2.1 HOK.out.2.2.1 HOK.out.2.2.2.1).mono ?_
  rintro r w47 ⟨hr, hb⟩
  obtain rfl : r = .returned (.int .i64 76) := by rw [hr, HOK.out.2.2.2.2]
  clear hr HOK HF
  replace HG44 := Lib.hid (HG44.out.next hb)
  replace HB0 := Lib.hid (HB0.out.trans (hb.mono HB0.out.size))
  clear hb
  clear HG44 HGS44
  go_wp2_with fail
  refine (factB_any 11 1 7 0 nmU _).mono ?_
  rintro r w48 ⟨⟨g48, rfl, hs, hgs⟩, hb⟩
  replace HB0 := Lib.hid (HB0.out.trans (hb.mono HB0.out.size))
  have HG48 := Lib.hid hs
  have HGS48 := Lib.hid hgs
  clear hs hgs hb
  go_wp2_with fail
  refine (number_any 2 _).mono ?_
  rintro r w49 ⟨rfl, hb⟩
  replace HG48 := Lib.hid (HG48.out.next hb)
  replace HB0 := Lib.hid (HB0.out.trans (hb.mono HB0.out.size))
  clear hb
  go_wp2_with fail
  refine (factB_any 11 2 1 2 ⟨#[]⟩ _).mono ?_
  rintro r w50 ⟨⟨g50, rfl, hs, hgs⟩, hb⟩
  replace HG48 := Lib.hid (HG48.out.next hb)
  replace HB0 := Lib.hid (HB0.out.trans (hb.mono HB0.out.size))
  have HG50 := Lib.hid hs
  have HGS50 := Lib.hid hgs
  clear hs hgs hb
  obtain ⟨w51, hw51⟩ : ∃ X, w50.alloc (.cells #[.int .i64 11, .int .i64 1, .int .i64 7, .int .i64 0, .string nmU, .slice (some ⟨g48, 0, none⟩) 1 1, .int .i64 11, .int .i64 2, .int .i64 1, .int .i64 2, .string ⟨#[]⟩, .slice (some ⟨g50, 0, none⟩) 1 1] 30) = X := ⟨_, rfl⟩
  have hal : Below w50.heap.size w50 w51 := by rw [← hw51]; exact (Below.refl _ _).alloc (Nat.le_refl _) _
  have HM : Hid (MoreAt w51 w50.heap.size [(⟨11, 1, 7, 0, nmU, allS⟩, .slice (some ⟨g48, 0, none⟩) 1 1), (⟨11, 2, 1, 2, ⟨#[]⟩, allS⟩, .slice (some ⟨g50, 0, none⟩) 1 1)]) := by
    rw [← hw51]
    refine more_new w50 _ _ rfl (fun p hp => ?_)
    simp only [List.mem_cons, List.not_mem_nil, or_false] at hp
    rcases hp with rfl | rfl
    · exact sva_sp HG48.out
    · exact sva_sp HG50.out
  replace HG48 := Lib.hid (HG48.out.next hal)
  replace HG50 := Lib.hid (HG50.out.next hal)
  replace HB0 := Lib.hid (HB0.out.trans (hal.mono HB0.out.size))
  clear hal
  go_wp2_with fail
  try rw [hw51]
  clear hw51
  obtain ⟨L, hL⟩ : ∃ L, fewF ++ mf10 = L := ⟨_, rfl⟩
  have HOK : Hid (OkM L 70) := by rw [← hL]; exact okm10
  refine (fewM_any w50.heap.size [(⟨11, 1, 7, 0, nmU, allS⟩, .slice (some ⟨g48, 0, none⟩) 1 1), (⟨11, 2, 1, 2, ⟨#[]⟩, allS⟩, .slice (some ⟨g50, 0, none⟩) 1 1)] w51 HM.out (Nat.le_of_ble_eq_true rfl) (Nat.le_of_ble_eq_true rfl)).mono ?_
  rintro r w52 ⟨⟨Ax, cx, hr, hf⟩, hb⟩
  obtain rfl : r = .returned (.slice Ax L.length cx) := by rw [hr, ← hL]; rfl
  have HF : Hid (FVa w52 (.slice Ax L.length cx) L) := by rw [← hL]; exact hf
  clear hL hr hf
  replace HG48 := Lib.hid (HG48.out.next hb)
  replace HG50 := Lib.hid (HG50.out.next hb)
  replace HB0 := Lib.hid (HB0.out.trans (hb.mono HB0.out.size))
  clear hb
  go_wp2_with fail
  refine (holds_any Ax cx L w52 HF.out HOK.out.1 HOK.out.2.1 HOK.out.2.2.1 HOK.out.2.2.2.1).mono ?_
  rintro r w53 ⟨hr, hb⟩
  obtain rfl : r = .returned (.int .i64 70) := by rw [hr, HOK.out.2.2.2.2]
  clear hr HOK HF
  replace HG48 := Lib.hid (HG48.out.next hb)
  replace HG50 := Lib.hid (HG50.out.next hb)
  replace HB0 := Lib.hid (HB0.out.trans (hb.mono HB0.out.size))
  clear hb
  clear HG48 HG50 HGS48 HGS50
  obtain ⟨w54, hw54⟩ : ∃ X, w53.alloc (.cells #[.int .i64 0, .int .i64 0, .int .i64 0, .int .i64 0, .string ⟨#[]⟩, .slice none 0 0] 30) = X := ⟨_, rfl⟩
  have hal : Below w53.heap.size w53 w54 := by rw [← hw54]; exact (Below.refl _ _).alloc (Nat.le_refl _) _
  have HF : Hid (FVa w54 (.slice (some ⟨w53.heap.size, 0, none⟩) 1 1) mf11) := by
    have hh : w54.heap[w53.heap.size]? = some (.cells #[.int .i64 0, .int .i64 0, .int .i64 0, .int .i64 0, .string ⟨#[]⟩, .slice none 0 0] 30 (0, 0)) := by rw [← hw54]; exact heap_alloc_new w53 _
    refine ⟨_, 1, rfl, fun _ => ⟨w53.heap.size, 0, rfl, (Array.getElem?_eq_some_iff.1 hh).1, fun j f hf => ?_⟩, Nat.le_refl _, by decide⟩
    cases j with
    | zero =>
      cases hf
      refine ⟨.slice none 0 0, ⟨?_, ?_, ?_, ?_, ?_, ?_⟩, ⟨none, 0, rfl, fun h => absurd rfl h, Nat.le_refl _, Nat.zero_le _⟩⟩ <;> (unfold World.cell?; simp only [Nat.zero_mul, Nat.add_zero, Nat.zero_add]; rw [hh]; rfl)
    | succ j => simp [mf11] at hf
  replace HB0 := Lib.hid (HB0.out.trans (hal.mono HB0.out.size))
  clear hal
  go_wp2_with fail
  try rw [hw54]
  clear hw54
  refine (holds_any (some ⟨w53.heap.size, 0, none⟩) 1 mf11 w54 HF.out okm11.1 okm11.2.1 okm11.2.2.1 okm11.2.2.2.1).mono ?_
  rintro r w55 ⟨hr, hb⟩
  obtain rfl : r = .returned (.int .i64 60) := by rw [hr, okm11.2.2.2.2]
  clear hr HF
  replace HB0 := Lib.hid (HB0.out.trans (hb.mono HB0.out.size))
  clear hb
  go_wp2_with fail
  refine (few_any w55).mono ?_
  rintro r w56 ⟨⟨gf, rfl, hf⟩, hb⟩
  have HO := Lib.hid (show Calls Try.prog 8 #[.slice (some ⟨gf, 0, none⟩) 2 2] w56 (OfR w56 fewF) from (callsIn_wide (n := 9)).1 (of_good 9 (Nat.le_of_ble_eq_true rfl) _ 2 fewF w56 hf (by decide) (by decide) (by decide +kernel)))
  replace HB0 := Lib.hid (HB0.out.trans (hb.mono HB0.out.size))
  clear hf hb
  go_wp2_with fail
  refine HO.out.mono ?_
  rintro r w57 ⟨⟨A2, c2, hr, hsa⟩, hb⟩
  obtain ⟨L, hL⟩ : ∃ L, builtL ++ [ageA] = L := ⟨_, rfl⟩
  rw [fewF_l, hL] at hsa
  obtain rfl : r = .returned (.tuple #[.slice A2 L.length c2, .int .i64 0]) := by rw [hr, fewF_l, fewF_e, hL]
  have HSL := Lib.hid hsa
  have HLL : Hid (L.length ≤ 1000) := by rw [← hL]; show (builtL ++ [ageA]).length ≤ 1000; decide
  have HNO : Hid (fndV (L.find? (nmP ⟨#[117, 115, 101, 114, 47, 110, 97, 109, 101]⟩)) = .tuple #[.agg #[.int .i64 0, .string ⟨#[]⟩, .int .i64 0, .bool false, .int .i64 0, .bool false, .bool false], .bool false]) := by rw [← hL]; rfl
  have HIS : Hid (fndV (L.find? (nmP ⟨#[117, 115, 101, 114, 47, 97, 103, 101]⟩)) = .tuple #[.agg #[.int .i64 10, .string ⟨#[117, 115, 101, 114, 47, 97, 103, 101]⟩, .int .i64 1, .bool false, .int .i64 0, .bool false, .bool false], .bool true]) := by rw [← hL]; rfl
  have HOKL : Hid (∀ a ∈ L, AttOk a) := by
    rw [← hL]
    intro a ha
    rcases List.mem_append.1 ha with ha | ha
    · exact built_ok a ha
    · rw [List.mem_singleton.1 ha]; exact ⟨by decide, by decide, by decide⟩
  have HA1 : Hid (altN L builtL = 77) := by rw [← hL]; show _ = _; decide +kernel
  have HA2 : Hid (altN builtL L = 0) := by rw [← hL]; show _ = _; decide +kernel
  clear hr hsa hL HO
  replace HB0 := Lib.hid (HB0.out.trans (hb.mono HB0.out.size))
  clear hb
  go_wp2_with fail
  refine (byName_any A2 c2 L _ w57 HSL.out (by have := HLL.out; omega)).mono ?_
  rw [HNO.out]
  rintro r w58 ⟨rfl, hb⟩
  replace HSL := Lib.hid ((HSL.out.next hb (Nat.le_refl _)).more hb.size)
  replace HB0 := Lib.hid (HB0.out.trans (hb.mono HB0.out.size))
  clear hb
  obtain ⟨w59, hw59⟩ : ∃ X, w58.alloc (.cells #[.int .i64 0, .string ⟨#[]⟩, .int .i64 0, .bool false, .int .i64 0, .bool false, .bool false] 39) = X := ⟨_, rfl⟩
  have hal : Below w58.heap.size w58 w59 := by rw [← hw59]; exact (Below.refl _ _).alloc (Nat.le_refl _) _
  replace HSL := Lib.hid ((HSL.out.next hal (Nat.le_refl _)).more hal.size)
  replace HB0 := Lib.hid (HB0.out.trans (hal.mono HB0.out.size))
  clear hal
  have HQW := Lib.hid hw59
  clear hw59
  go_wp2_with fail
  rw [HQW.out]
  clear HQW
  refine (byName_any A2 c2 L _ w59 HSL.out (by have := HLL.out; omega)).mono ?_
  rw [HIS.out]
  rintro r w60 ⟨rfl, hb⟩
  replace HSL := Lib.hid ((HSL.out.next hb (Nat.le_refl _)).more hb.size)
  replace HB0 := Lib.hid (HB0.out.trans (hb.mono HB0.out.size))
  clear hb
  obtain ⟨w61, hw61⟩ : ∃ X, w60.alloc (.cells #[.int .i64 10, .string ⟨#[117, 115, 101, 114, 47, 97, 103, 101]⟩, .int .i64 1, .bool false, .int .i64 0, .bool false, .bool false] 39) = X := ⟨_, rfl⟩
  have hal : Below w60.heap.size w60 w61 := by rw [← hw61]; exact (Below.refl _ _).alloc (Nat.le_refl _) _
  have HXB : Hid (w61.cell? ⟨w60.heap.size, 0, none⟩ = some (.int .i64 10) ∧ w60.heap.size < w61.heap.size) := by rw [← hw61]; exact ⟨by have := heap_alloc_new w60 (.cells #[.int .i64 10, .string ⟨#[117, 115, 101, 114, 47, 97, 103, 101]⟩, .int .i64 1, .bool false, .int .i64 0, .bool false, .bool false] 39); unfold World.cell?; rw [this]; rfl, by simp⟩
  obtain ⟨bX, hbX⟩ : ∃ b, w60.heap.size = b := ⟨_, rfl⟩
  rw [hbX] at HXB
  replace HSL := Lib.hid ((HSL.out.next hal (Nat.le_refl _)).more hal.size)
  replace HB0 := Lib.hid (HB0.out.trans (hal.mono HB0.out.size))
  clear hal
  have HQW := Lib.hid hw61
  clear hw61
  have HQX := Lib.hid hbX
  clear hbX
  go_wp2_with fail
  rw [HQW.out]
  rw [HQX.out]
  clear HQW HQX
  refine (alive_any w61).mono ?_
  rintro r w62 ⟨rfl, hb⟩
  replace HXB : Hid (w62.cell? ⟨bX, 0, none⟩ = some (.int .i64 10) ∧ bX < w62.heap.size) := ⟨(hb.cell (p := ⟨bX, 0, none⟩) HXB.out.2).trans HXB.out.1, Nat.lt_of_lt_of_le HXB.out.2 hb.size⟩
  replace HSL := Lib.hid ((HSL.out.next hb (Nat.le_refl _)).more hb.size)
  replace HB0 := Lib.hid (HB0.out.trans (hb.mono HB0.out.size))
  clear hb
  have x0 := HXB.out.1
  go_wp2_with fail
  clear x0
  refine (built_any w62).mono ?_
  rintro r w63 ⟨Ab, cb, rfl, hsb, hb⟩
  have HSB2 := Lib.hid hsb
  replace HSL := Lib.hid ((HSL.out.next hb (Nat.le_refl _)).more hb.size)
  replace HB0 := Lib.hid (HB0.out.trans (hb.mono HB0.out.size))
  clear hsb hb
  go_wp2_with fail
  refine (alter_any A2 Ab c2 cb L builtL w63 HSL.out HSB2.out HLL.out (by decide) HOKL.out built_ok).mono ?_
  rw [HA1.out]
  rintro r w64 ⟨rfl, hb⟩
  replace HSL := Lib.hid ((HSL.out.next hb (Nat.le_refl _)).more hb.size)
  replace HB0 := Lib.hid (HB0.out.trans (hb.mono HB0.out.size))
  clear hb HSB2
  go_wp2_with fail
  refine (built_any w64).mono ?_
  rintro r w65 ⟨Ab, cb, rfl, hsb, hb⟩
  have HSB2 := Lib.hid hsb
  replace HSL := Lib.hid ((HSL.out.next hb (Nat.le_refl _)).more hb.size)
  replace HB0 := Lib.hid (HB0.out.trans (hb.mono HB0.out.size))
  clear hsb hb
  go_wp2_with fail
  refine (alter_any Ab A2 cb c2 builtL L w65 HSB2.out HSL.out (by decide) HLL.out built_ok HOKL.out).mono ?_
  rw [HA2.out]
  rintro r w66 ⟨rfl, hb⟩
  replace HSL := Lib.hid ((HSL.out.next hb (Nat.le_refl _)).more hb.size)
  replace HB0 := Lib.hid (HB0.out.trans (hb.mono HB0.out.size))
  clear hb HSB2
  go_wp2
  go_ret
  exact ⟨rfl, HB0.out⟩
end Go.Proofs.Ytlmihlepaoifiaa
