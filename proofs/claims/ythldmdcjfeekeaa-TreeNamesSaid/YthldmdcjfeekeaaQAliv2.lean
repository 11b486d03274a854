/-
  CONTRACT: alive (the statements' own).
-/
import Derived.Test.YthldmdcjfeekeaaQAlive
namespace Go.Proofs.Ythldmdcjfeekeaa
open Go.RowKit

def dabF : List Pr := [([97], [49]), ([98], [50]), ([100], [52])]
def PrEnd (w : World) (k x : By) (is : Bool) (e : Ending) (w' : World) : Prop := ∃ A1 c1 A2 c2, e = .returned (.tuple #[.agg #[.slice A1 k.length c1, .slice A2 x.length c2], .bool is]) ∧ SlB w' w'.heap.size A1 k ∧ SlB w' w'.heap.size A2 x ∧ Below w.heap.size w w'
theorem prEnd_of {w : World} {L : List Pr} {i : Int} {k x : By} {is : Bool} {e : Ending} {w' : World} (h : AtEnd w L i e w') (h1 : atP L i = (k, x)) (h2 : isP L i = is) : PrEnd w k x is e w' := by
  obtain ⟨v, rfl, hv, hb⟩ := h
  rw [h1] at hv
  obtain ⟨A, c, A', c', rfl, k1, k2⟩ := prV_open hv
  exact ⟨A, c, A', c', by rw [h2], k1, k2, hb⟩
theorem rank99 : rankL dabF [99] = 2 := by decide
theorem rank97 : rankL dabF [97] = 0 := by decide
theorem seekD (A : Option Addr) (c : Nat) (u : Option Addr) (w : World) (h : TreeV w (.pointer u) dabF) (hk : SlB w w.heap.size A [99]) :
    Calls Try.prog 25 #[.pointer u, .slice A 1 c] w (PrEnd w [100] [52] true) :=
  (seekM_any A c [99] w h hk (Nat.le_refl _)).mono fun _ _ h => prEnd_of h (by rw [rank99]; rfl) (by rw [rank99]; rfl)
theorem backD (A : Option Addr) (c : Nat) (u : Option Addr) (w : World) (h : TreeV w (.pointer u) dabF) (hk : SlB w w.heap.size A [99]) :
    Calls Try.prog 29 #[.pointer u, .slice A 1 c] w (PrEnd w [98] [50] true) :=
  (backM_any A c [99] w h hk (Nat.le_refl _)).mono fun _ _ h => prEnd_of h (by rw [rank99]; rfl) (by rw [rank99]; rfl)
theorem backA (A : Option Addr) (c : Nat) (u : Option Addr) (w : World) (h : TreeV w (.pointer u) dabF) (hk : SlB w w.heap.size A [97]) :
    Calls Try.prog 29 #[.pointer u, .slice A 1 c] w (PrEnd w [] [] false) :=
  (backM_any A c [97] w h hk (Nat.le_refl _)).mono fun _ _ h => prEnd_of h (by rw [rank97]; rfl) (by rw [rank97]; rfl)
set_option maxRecDepth 100000 in
set_option maxHeartbeats 4000000 in
theorem alive_any (w : World) :
    Calls Try.prog 26 #[] w fun e w' => e = .returned (.bool true) ∧ Below w.heap.size w w' := by
  have kc := fun (w : World) (C : Array Value) (n c : Nat) => Lib.run_convert_bytes_const (P := Try.prog) w 34 5 C n c Try.underlying34 Try.underlying5
  go_enter Try.func26, Try.ntmps26
  go_wp2_with fail
  refine (ofDab_any w).mono ?_
  rintro e w1 ⟨u, rfl, ht1, hb1⟩
  have HT1 : Hid (TreeV w1 (.pointer u) dabF) := ht1
  have HB1 := Lib.hid hb1
  clear ht1 hb1
  obtain ⟨x2, hx2⟩ : ∃ X, w1.alloc (.cells #[.int .u8 99] 5 (1, 2)) = X := ⟨_, rfl⟩
  have hbx2 : Below w1.heap.size w1 x2 := by rw [← hx2]; exact (Below.refl _ _).alloc (Nat.le_refl _) _
  have hs2 : SlB x2 x2.heap.size (some ⟨w1.heap.size, 0, none⟩) [99] := by rw [← hx2]; exact lit_mark w1 99 (1, 2)
  have HC2 := Lib.hid (seekD (some ⟨w1.heap.size, 0, none⟩) 1 u x2 (HT1.out.next hbx2) hs2)
  have HBx2 := Lib.hid hbx2
  clear hbx2 hs2
  go_wp2_with fail
  try rw [hx2]
  clear hx2
  refine HC2.out.mono ?_
  rintro e z2 ⟨A2, c2, D2, d2, rfl, k2, y2, hbz2⟩
  have hbb2 : Below w1.heap.size w1 z2 := HBx2.out.trans (hbz2.mono HBx2.out.size)
  obtain ⟨q2, hq2⟩ : ∃ X, z2.alloc (.cells #[.slice A2 1 c2, .slice D2 1 d2] 57) = X := ⟨_, rfl⟩
  have hbq2 : Below z2.heap.size z2 q2 := by rw [← hq2]; exact (Below.refl _ _).alloc (Nat.le_refl _) _
  have HP2 : Hid (PBox q2 z2.heap.size (.slice A2 1 c2) (.slice D2 1 d2)) := by show PBox _ _ _ _; rw [← hq2]; exact heap_alloc_new z2 _
  have HK2 := Lib.hid (slB_up k2 hbq2)
  have HY2 := Lib.hid (slB_up y2 hbq2)
  have hbt2 : Below w1.heap.size w1 q2 := hbb2.trans (hbq2.mono hbb2.size)
  have HT2 := Lib.hid (HT1.out.next hbt2)
  have HB2 := Lib.hid (HB1.out.trans (hbt2.mono HB1.out.size))
  have HN2 := Lib.hid hbt2
  clear k2 y2 hbz2 hbb2 hbq2 hbt2 HBx2 HC2
  obtain ⟨x3, hx3⟩ : ∃ X, q2.alloc (.cells #[.int .u8 99] 5 (1, 2)) = X := ⟨_, rfl⟩
  have hbx3 : Below q2.heap.size q2 x3 := by rw [← hx3]; exact (Below.refl _ _).alloc (Nat.le_refl _) _
  have hs3 : SlB x3 x3.heap.size (some ⟨q2.heap.size, 0, none⟩) [99] := by rw [← hx3]; exact lit_mark q2 99 (1, 2)
  have HC3 := Lib.hid (backD (some ⟨q2.heap.size, 0, none⟩) 1 u x3 (HT2.out.next hbx3) hs3)
  have HBx3 := Lib.hid hbx3
  clear hbx3 hs3
  go_wp2_with fail
  try rw [hq2]
  try rw [hx3]
  clear hx3 hq2
  refine HC3.out.mono ?_
  rintro e z3 ⟨A3, c3, D3, d3, rfl, k3, y3, hbz3⟩
  have hbb3 : Below q2.heap.size q2 z3 := HBx3.out.trans (hbz3.mono HBx3.out.size)
  obtain ⟨q3, hq3⟩ : ∃ X, z3.alloc (.cells #[.slice A3 1 c3, .slice D3 1 d3] 57) = X := ⟨_, rfl⟩
  have hbq3 : Below z3.heap.size z3 q3 := by rw [← hq3]; exact (Below.refl _ _).alloc (Nat.le_refl _) _
  have HP3 : Hid (PBox q3 z3.heap.size (.slice A3 1 c3) (.slice D3 1 d3)) := by show PBox _ _ _ _; rw [← hq3]; exact heap_alloc_new z3 _
  have HK3 := Lib.hid (slB_up k3 hbq3)
  have HY3 := Lib.hid (slB_up y3 hbq3)
  have hbt3 : Below q2.heap.size q2 q3 := hbb3.trans (hbq3.mono hbb3.size)
  have HT3 := Lib.hid (HT2.out.next hbt3)
  have HB3 := Lib.hid (HB2.out.trans (hbt3.mono HB2.out.size))
  have HN3 := Lib.hid hbt3
  clear k3 y3 hbz3 hbb3 hbq3 hbt3 HBx3 HC3
  obtain ⟨x4, hx4⟩ : ∃ X, q3.alloc (.cells #[.int .u8 97] 5 (1, 2)) = X := ⟨_, rfl⟩
  have hbx4 : Below q3.heap.size q3 x4 := by rw [← hx4]; exact (Below.refl _ _).alloc (Nat.le_refl _) _
  have hs4 : SlB x4 x4.heap.size (some ⟨q3.heap.size, 0, none⟩) [97] := by rw [← hx4]; exact lit_mark q3 97 (1, 2)
  have HC4 := Lib.hid (backA (some ⟨q3.heap.size, 0, none⟩) 1 u x4 (HT3.out.next hbx4) hs4)
  have HBx4 := Lib.hid hbx4
  clear hbx4 hs4
  go_wp2_with fail
  try rw [hq3]
  try rw [hx4]
  clear hx4 hq3
  refine HC4.out.mono ?_
  rintro e z4 ⟨A4, c4, D4, d4, rfl, k4, y4, hbz4⟩
  have hbb4 : Below q3.heap.size q3 z4 := HBx4.out.trans (hbz4.mono HBx4.out.size)
  obtain ⟨q4, hq4⟩ : ∃ X, z4.alloc (.cells #[.slice A4 0 c4, .slice D4 0 d4] 57) = X := ⟨_, rfl⟩
  have hbq4 : Below z4.heap.size z4 q4 := by rw [← hq4]; exact (Below.refl _ _).alloc (Nat.le_refl _) _
  have HP4 : Hid (PBox q4 z4.heap.size (.slice A4 0 c4) (.slice D4 0 d4)) := by show PBox _ _ _ _; rw [← hq4]; exact heap_alloc_new z4 _
  have HK4 := Lib.hid (slB_up k4 hbq4)
  have HY4 := Lib.hid (slB_up y4 hbq4)
  have hbt4 : Below q3.heap.size q3 q4 := hbb4.trans (hbq4.mono hbb4.size)
  have HT4 := Lib.hid (HT3.out.next hbt4)
  have HB4 := Lib.hid (HB3.out.trans (hbt4.mono HB3.out.size))
  have HN4 := Lib.hid hbt4
  clear k4 y4 hbz4 hbb4 hbq4 hbt4 HBx4 HC4
  have hb24 : Below q2.heap.size q2 q4 := HN3.out.trans (HN4.out.mono HN3.out.size)
  have hp2 := HP2.out.next hb24 HP2.out.lt
  have hp3 := HP3.out.next HN4.out HP3.out.lt
  have a0 := hp2.c0
  have a1 := hp2.c1
  have b0 := hp3.c0
  have b1 := hp3.c1
  have HG2 := Lib.hid (toldB_any A2 D2 c2 d2 ([100], [52]) true ⟨#[100]⟩ ⟨#[52]⟩ (slB_up HK2.out hb24) (slB_up HY2.out hb24))
  have HK3' := Lib.hid (slB_up HK3.out HN4.out)
  have HY3' := Lib.hid (slB_up HY3.out HN4.out)
  clear hb24 hp2 hp3
  go_wp2_with fail
  try rw [hq4]
  clear hq4
  refine HG2.out.mono ?_
  rw [show toldE ([100], [52]) true ⟨#[100]⟩ ⟨#[52]⟩ = true from rfl]
  rintro e w7 ⟨rfl, hb7⟩
  have HG3 := Lib.hid (toldB_any A3 D3 c3 d3 ([98], [50]) true ⟨#[98]⟩ ⟨#[50]⟩ (slB_up HK3'.out hb7) (slB_up HY3'.out hb7))
  have b0' := (hb7.cell (p := ⟨z3.heap.size, 0, none⟩) (Nat.lt_of_lt_of_le HP3.out.lt HN4.out.size)).trans b0
  have b1' := (hb7.cell (p := ⟨z3.heap.size, 1, none⟩) (Nat.lt_of_lt_of_le HP3.out.lt HN4.out.size)).trans b1
  have HT7 := Lib.hid (HT4.out.next hb7)
  have HB7 := Lib.hid (HB4.out.trans (hb7.mono HB4.out.size))
  clear a0 a1 b0 b1 hb7 HG2
  go_wp2_with fail
  refine HG3.out.mono ?_
  rw [show toldE ([98], [50]) true ⟨#[98]⟩ ⟨#[50]⟩ = true from rfl]
  rintro e w8 ⟨rfl, hb8⟩
  have HLN := Lib.hid (len_any w8 (HT7.out.next hb8))
  have HB8 := Lib.hid (HB7.out.trans (hb8.mono HB7.out.size))
  clear b0' b1' hb8 HG3
  rw [show dabF.length = 3 from rfl] at HLN
  go_wp2_with fail
  refine HLN.out.mono ?_
  rintro e w' ⟨rfl, rfl⟩
  go_wp2
  go_ret
  exact ⟨rfl, HB8.out⟩
end Go.Proofs.Ythldmdcjfeekeaa
