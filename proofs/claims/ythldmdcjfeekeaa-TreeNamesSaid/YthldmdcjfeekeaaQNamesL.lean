/-
  THE LAW TreeNames.
-/
import Derived.Test.YthldmdcjfeekeaaQNamesP
namespace Go.Proofs.Ythldmdcjfeekeaa
open Go.RowKit

def NamesEnd (w : World) (e : Ending) (w' : World) : Prop := e = .returned (.bool true) ∧ Below w.heap.size w w'
set_option maxRecDepth 100000 in
set_option maxHeartbeats 8000000 in
theorem names_law (w : World) : Calls Try.prog 5 #[] w (NamesEnd w) := by
  have kc := fun (w : World) (C : Array Value) (n c : Nat) => Lib.run_convert_bytes_const (P := Try.prog) w 34 5 C n c Try.underlying34 Try.underlying5
  go_enter Try.func5, Try.ntmps5
  go_wp2_with fail
  refine (ofAbd_any w).mono ?_
  rintro e w1 ⟨u, rfl, ht1, hb1⟩
  have HTw1 : Hid (TreeV w1 (.pointer u) abdF) := ht1
  have HBw1 := Lib.hid hb1
  clear ht1 hb1
  have HC2 := Lib.hid ((atM_any 2 w1 HTw1.out (by decide) (by decide)).mono (R' := PrEnd w1 [100] [52] true) fun _ _ h => prEnd_of h rfl rfl)
  go_wp2_with fail
  refine HC2.out.mono ?_
  rintro e z2 ⟨A2, c2, D2, d2, rfl, k2, y2, hbz2⟩
  have HBz2 := Lib.hid (HBw1.out.trans (hbz2.mono HBw1.out.size))
  have HTz2 := Lib.hid (HTw1.out.next hbz2)
  obtain ⟨q2, hq2⟩ : ∃ X, z2.alloc (.cells #[.slice A2 1 c2, .slice D2 1 d2] 57) = X := ⟨_, rfl⟩
  have hbq2 : Below z2.heap.size z2 q2 := by rw [← hq2]; exact (Below.refl _ _).alloc (Nat.le_refl _) _
  have HBq2 := Lib.hid (HBz2.out.trans (hbq2.mono HBz2.out.size))
  have HTq2 := Lib.hid (HTz2.out.next hbq2)
  have HP2 : Hid (PBox q2 z2.heap.size (.slice A2 1 c2) (.slice D2 1 d2)) := by show PBox _ _ _ _; rw [← hq2]; exact heap_alloc_new z2 _
  have HK2 := Lib.hid (slB_up k2 hbq2)
  have HY2 := Lib.hid (slB_up y2 hbq2)
  clear k2 y2 hbz2 hbq2 HC2
  have HNPq2 := Lib.hid (Below.refl q2.heap.size q2)
  obtain ⟨x3, hx3⟩ : ∃ X, q2.alloc (.cells #[.int .u8 98] 5 (1, 2)) = X := ⟨_, rfl⟩
  have hbx3 : Below q2.heap.size q2 x3 := by rw [← hx3]; exact (Below.refl _ _).alloc (Nat.le_refl _) _
  have HBx3 := Lib.hid (HBq2.out.trans (hbx3.mono HBq2.out.size))
  have HTx3 := Lib.hid (HTq2.out.next hbx3)
  have HNPx3 := Lib.hid (HNPq2.out.trans (hbx3.mono HNPq2.out.size))
  have hsx3 : SlB x3 x3.heap.size (some ⟨q2.heap.size, 0, none⟩) [98] := by rw [← hx3]; exact lit_mark q2 98 (1, 2)
  clear hbx3
  have HC3 := Lib.hid (rngG (M := [([98], [50])]) (some ⟨q2.heap.size, 0, none⟩) none 1 0 [98] [] 1 x3 HTx3.out hsx3 (fun h => absurd rfl h) rfl)
  clear hsx3
  go_wp2_with fail
  try rw [hq2]
  try rw [hx3]
  clear hq2 hx3
  refine HC3.out.mono ?_
  rintro e w3 ⟨A3, c3, qs3, rfl, ho3, hq3, hb3⟩
  have HBw3 := Lib.hid (HBx3.out.trans (hb3.mono HBx3.out.size))
  have HTw3 := Lib.hid (HTx3.out.next hb3)
  have HNPw3 := Lib.hid (HNPx3.out.trans (hb3.mono HNPx3.out.size))
  obtain ⟨g3, E1, e1, E2, e2, rfl, gl3, r0, r1, rs1, rs2⟩ := cells_of ho3 hq3
  have HR0 := Lib.hid r0
  have HR1 := Lib.hid r1
  have HRL := Lib.hid gl3
  have HRS1 := Lib.hid rs1
  have HRS2 := Lib.hid rs2
  clear ho3 hq3 hb3 r0 r1 gl3 rs1 rs2 HC3
  have HNRw3 := Lib.hid (Below.refl w3.heap.size w3)
  obtain ⟨x4, hx4⟩ : ∃ X, w3.alloc (.cells #[.int .u8 98] 5 (1, 2)) = X := ⟨_, rfl⟩
  have hbx4 : Below w3.heap.size w3 x4 := by rw [← hx4]; exact (Below.refl _ _).alloc (Nat.le_refl _) _
  have HBx4 := Lib.hid (HBw3.out.trans (hbx4.mono HBw3.out.size))
  have HTx4 := Lib.hid (HTw3.out.next hbx4)
  have HNPx4 := Lib.hid (HNPw3.out.trans (hbx4.mono HNPw3.out.size))
  have HNRx4 := Lib.hid (HNRw3.out.trans (hbx4.mono HNRw3.out.size))
  have hsx4 : SlB x4 x4.heap.size (some ⟨w3.heap.size, 0, none⟩) [98] := by rw [← hx4]; exact lit_mark w3 98 (1, 2)
  clear hbx4
  obtain ⟨y4, hy4⟩ : ∃ X, x4.alloc (.cells #[.int .u8 57] 5 (1, 2)) = X := ⟨_, rfl⟩
  have hby4 : Below x4.heap.size x4 y4 := by rw [← hy4]; exact (Below.refl _ _).alloc (Nat.le_refl _) _
  have HBy4 := Lib.hid (HBx4.out.trans (hby4.mono HBx4.out.size))
  have HTy4 := Lib.hid (HTx4.out.next hby4)
  have HNPy4 := Lib.hid (HNPx4.out.trans (hby4.mono HNPx4.out.size))
  have HNRy4 := Lib.hid (HNRx4.out.trans (hby4.mono HNRx4.out.size))
  have hsy4 : SlB y4 y4.heap.size (some ⟨x4.heap.size, 0, none⟩) [57] := by rw [← hy4]; exact lit_mark x4 57 (1, 2)
  clear hby4
  have hsx4b := slB_up hsx4 (by rw [← hy4]; exact (Below.refl _ _).alloc (Nat.le_refl _) _ : Below x4.heap.size x4 y4)
  have HC4 := Lib.hid (putG (M := abd9) (some ⟨w3.heap.size, 0, none⟩) (some ⟨x4.heap.size, 0, none⟩) 1 1 [98] [57] y4 HTy4.out hsx4b hsy4 (by decide) (by decide) (by decide) rfl)
  clear hsx4 hsy4 hsx4b
  go_wp2_with fail
  try rw [hx4]
  try rw [hy4]
  clear hx4 hy4
  refine HC4.out.mono ?_
  rintro e w4 ⟨b4, rfl, hu4, hb4⟩
  have HBw4 := Lib.hid (HBy4.out.trans (hb4.mono HBy4.out.size))
  have HTw4 := Lib.hid (HTy4.out.next hb4)
  have HNPw4 := Lib.hid (HNPy4.out.trans (hb4.mono HNPy4.out.size))
  have HNRw4 := Lib.hid (HNRy4.out.trans (hb4.mono HNRy4.out.size))
  have HC5 := Lib.hid (diffG (M := [([98], [57])]) w4 hu4 HTw4.out rfl)
  clear hb4 hu4 HC4
  go_wp2_with fail
  refine HC5.out.mono ?_
  rintro e w5 ⟨A5, c5, qs5, rfl, ho5, hq5, hb5⟩
  have HBw5 := Lib.hid (HBw4.out.trans (hb5.mono HBw4.out.size))
  have HTw5 := Lib.hid (HTw4.out.next hb5)
  have HNPw5 := Lib.hid (HNPw4.out.trans (hb5.mono HNPw4.out.size))
  have HNRw5 := Lib.hid (HNRw4.out.trans (hb5.mono HNRw4.out.size))
  obtain ⟨g5, F1, f1, F2, f2, rfl, gl5, r0, r1, rs1, rs2⟩ := cells_of ho5 hq5
  have HD0 := Lib.hid r0
  have HD1 := Lib.hid r1
  have HDL := Lib.hid gl5
  have HDS1 := Lib.hid rs1
  have HDS2 := Lib.hid rs2
  clear ho5 hq5 hb5 r0 r1 gl5 rs1 rs2 HC5
  have HNDw5 := Lib.hid (Below.refl w5.heap.size w5)
  obtain ⟨x6, hx6⟩ : ∃ X, w5.alloc (.cells #[.int .u8 98] 5 (1, 2)) = X := ⟨_, rfl⟩
  have hbx6 : Below w5.heap.size w5 x6 := by rw [← hx6]; exact (Below.refl _ _).alloc (Nat.le_refl _) _
  have HBx6 := Lib.hid (HBw5.out.trans (hbx6.mono HBw5.out.size))
  have HTx6 := Lib.hid (HTw5.out.next hbx6)
  have HNPx6 := Lib.hid (HNPw5.out.trans (hbx6.mono HNPw5.out.size))
  have HNRx6 := Lib.hid (HNRw5.out.trans (hbx6.mono HNRw5.out.size))
  have HNDx6 := Lib.hid (HNDw5.out.trans (hbx6.mono HNDw5.out.size))
  have hsx6 : SlB x6 x6.heap.size (some ⟨w5.heap.size, 0, none⟩) [98] := by rw [← hx6]; exact lit_mark w5 98 (1, 2)
  clear hbx6
  have HC6 := Lib.hid (getG (some ⟨w5.heap.size, 0, none⟩) 1 [98] [50] x6 HTx6.out hsx6 rfl)
  clear hsx6
  go_wp2_with fail
  try rw [hx6]
  clear hx6
  refine HC6.out.mono ?_
  rintro e w6 ⟨A6, c6, rfl, hv6, hb6⟩
  have HBw6 := Lib.hid (HBx6.out.trans (hb6.mono HBx6.out.size))
  have HTw6 := Lib.hid (HTx6.out.next hb6)
  have HNPw6 := Lib.hid (HNPx6.out.trans (hb6.mono HNPx6.out.size))
  have HNRw6 := Lib.hid (HNRx6.out.trans (hb6.mono HNRx6.out.size))
  have HNDw6 := Lib.hid (HNDx6.out.trans (hb6.mono HNDx6.out.size))
  have HV6 := Lib.hid hv6
  clear hv6 hb6 HC6
  have HNVw6 := Lib.hid (Below.refl w6.heap.size w6)
  have a0 := (HP2.out.next HNPw6.out HP2.out.lt).c0
  have a1 := (HP2.out.next HNPw6.out HP2.out.lt).c1
  have HG7 := Lib.hid (toldB_any A2 D2 c2 d2 ([100], [52]) true ⟨#[100]⟩ ⟨#[52]⟩ (slB_up HK2.out HNPw6.out) (slB_up HY2.out HNPw6.out))
  rw [show toldE ([100], [52]) true ⟨#[100]⟩ ⟨#[52]⟩ = true from rfl] at HG7
  go_wp2_with fail
  refine HG7.out.mono ?_
  rintro e w7 ⟨rfl, hb7⟩
  clear a0 a1
  have HBw7 := Lib.hid (HBw6.out.trans (hb7.mono HBw6.out.size))
  have HTw7 := Lib.hid (HTw6.out.next hb7)
  have HNPw7 := Lib.hid (HNPw6.out.trans (hb7.mono HNPw6.out.size))
  have HNRw7 := Lib.hid (HNRw6.out.trans (hb7.mono HNRw6.out.size))
  have HNDw7 := Lib.hid (HNDw6.out.trans (hb7.mono HNDw6.out.size))
  have HNVw7 := Lib.hid (HNVw6.out.trans (hb7.mono HNVw6.out.size))
  obtain ⟨x7, hx7⟩ : ∃ X, w7.alloc (.cells #[.int .u8 99] 5 (1, 2)) = X := ⟨_, rfl⟩
  have hbx7 : Below w7.heap.size w7 x7 := by rw [← hx7]; exact (Below.refl _ _).alloc (Nat.le_refl _) _
  have HBx7 := Lib.hid (HBw7.out.trans (hbx7.mono HBw7.out.size))
  have HTx7 := Lib.hid (HTw7.out.next hbx7)
  have HNRx7 := Lib.hid (HNRw7.out.trans (hbx7.mono HNRw7.out.size))
  have HNDx7 := Lib.hid (HNDw7.out.trans (hbx7.mono HNDw7.out.size))
  have HNVx7 := Lib.hid (HNVw7.out.trans (hbx7.mono HNVw7.out.size))
  have hsx7 : SlB x7 x7.heap.size (some ⟨w7.heap.size, 0, none⟩) [99] := by rw [← hx7]; exact lit_mark w7 99 (1, 2)
  clear hbx7
  have HC7 := Lib.hid (rankM_any (some ⟨w7.heap.size, 0, none⟩) 1 [99] x7 HTx7.out hsx7)
  rw [show rankL abdF [99] = 2 from by decide] at HC7
  clear hb7 hsx7
  go_wp2_with fail
  try rw [hx7]
  clear hx7
  refine HC7.out.mono ?_
  rintro e w' ⟨rfl, rfl⟩
  have l0 := (HNRx7.out.cell (p := ⟨g3, 0, none⟩) HRL.out).trans HR0.out
  have l1 := (HNRx7.out.cell (p := ⟨g3, 1, none⟩) HRL.out).trans HR1.out
  have HG8 := Lib.hid (toldB_any E1 E2 e1 e2 ([98], [50]) true ⟨#[98]⟩ ⟨#[50]⟩ (slB_up HRS1.out HNRx7.out) (slB_up HRS2.out HNRx7.out))
  rw [show toldE ([98], [50]) true ⟨#[98]⟩ ⟨#[50]⟩ = true from rfl] at HG8
  clear HC7
  go_wp2_with fail
  refine HG8.out.mono ?_
  rintro e w8 ⟨rfl, hb8⟩
  clear l0 l1
  have HBw8 := Lib.hid (HBx7.out.trans (hb8.mono HBx7.out.size))
  have HTw8 := Lib.hid (HTx7.out.next hb8)
  have HNRw8 := Lib.hid (HNRx7.out.trans (hb8.mono HNRx7.out.size))
  have HNDw8 := Lib.hid (HNDx7.out.trans (hb8.mono HNDx7.out.size))
  have HNVw8 := Lib.hid (HNVx7.out.trans (hb8.mono HNVx7.out.size))
  obtain ⟨x8, hx8⟩ : ∃ X, w8.alloc (.cells #[.int .u8 120] 5 (1, 2)) = X := ⟨_, rfl⟩
  have hbx8 : Below w8.heap.size w8 x8 := by rw [← hx8]; exact (Below.refl _ _).alloc (Nat.le_refl _) _
  have HBx8 := Lib.hid (HBw8.out.trans (hbx8.mono HBw8.out.size))
  have HTx8 := Lib.hid (HTw8.out.next hbx8)
  have HNDx8 := Lib.hid (HNDw8.out.trans (hbx8.mono HNDw8.out.size))
  have HNVx8 := Lib.hid (HNVw8.out.trans (hbx8.mono HNVw8.out.size))
  have hsx8 : SlB x8 x8.heap.size (some ⟨w8.heap.size, 0, none⟩) [120] := by rw [← hx8]; exact lit_mark w8 120 (1, 2)
  clear hbx8
  have HC8 := Lib.hid (cutG (M := abdF) (some ⟨w8.heap.size, 0, none⟩) 1 [120] x8 HTx8.out hsx8 rfl)
  clear hb8 hsx8
  go_wp2_with fail
  try rw [hx8]
  clear hx8
  refine HC8.out.mono ?_
  rintro e w9 ⟨b9, rfl, ht9, hb9⟩
  have HBw9 := Lib.hid (HBx8.out.trans (hb9.mono HBx8.out.size))
  have HTw9 := Lib.hid (HTx8.out.next hb9)
  have HNDw9 := Lib.hid (HNDx8.out.trans (hb9.mono HNDx8.out.size))
  have HNVw9 := Lib.hid (HNVx8.out.trans (hb9.mono HNVx8.out.size))
  have HC9 := Lib.hid (len_any w9 ht9)
  rw [show abdF.length = 3 from rfl] at HC9
  clear ht9 hb9 HC8
  go_wp2_with fail
  refine HC9.out.mono ?_
  rintro e w' ⟨rfl, rfl⟩
  have l0 := (HNDw9.out.cell (p := ⟨g5, 0, none⟩) HDL.out).trans HD0.out
  have l1 := (HNDw9.out.cell (p := ⟨g5, 1, none⟩) HDL.out).trans HD1.out
  have HG10 := Lib.hid (toldB_any F1 F2 f1 f2 ([98], [57]) true ⟨#[98]⟩ ⟨#[57]⟩ (slB_up HDS1.out HNDw9.out) (slB_up HDS2.out HNDw9.out))
  rw [show toldE ([98], [57]) true ⟨#[98]⟩ ⟨#[57]⟩ = true from rfl] at HG10
  clear HC9
  go_wp2_with fail
  refine HG10.out.mono ?_
  rintro e w10 ⟨rfl, hb10⟩
  clear l0 l1
  have HBw10 := Lib.hid (HBw9.out.trans (hb10.mono HBw9.out.size))
  have HTw10 := Lib.hid (HTw9.out.next hb10)
  have HNDw10 := Lib.hid (HNDw9.out.trans (hb10.mono HNDw9.out.size))
  have HNVw10 := Lib.hid (HNVw9.out.trans (hb10.mono HNVw9.out.size))
  have s10 : (convert 34 9 (.slice A6 1 c6)).run Try.prog w10 = .ok (.string ⟨#[50]⟩) w10 := slB_string (slB_up HV6.out HNVw10.out) c6
  obtain ⟨w11, hw11⟩ : ∃ X, w10.alloc (.cells #[.pointer none] 27) = X := ⟨_, rfl⟩
  have hbw11 : Below w10.heap.size w10 w11 := by rw [← hw11]; exact (Below.refl _ _).alloc (Nat.le_refl _) _
  have HBw11 := Lib.hid (HBw10.out.trans (hbw11.mono HBw10.out.size))
  have HTw11 := Lib.hid (HTw10.out.next hbw11)
  have hz11 : TreeV w11 (.pointer (some ⟨w10.heap.size, 0, none⟩)) [] := ⟨⟨_, .nil, rfl, .inr ⟨_, rfl, by rw [← hw11]; exact heap_alloc_new w10 _⟩, trivial, rfl⟩, List.Pairwise.nil, (fun _ h => by cases h), Nat.zero_le _⟩
  have HZw11 := Lib.hid hz11
  clear hz11 hb10 hbw11 HG10
  obtain ⟨kk, hkk⟩ : ∃ k : Nat, k = 4097 := ⟨_, rfl⟩
  obtain ⟨vv, hvv⟩ : ∃ k : Nat, k = 65537 := ⟨_, rfl⟩
  have hmk := fun X => run_make_row' (P := Try.prog) 34 5 (.int .u8 0) 1 Try.underlying34 info8 rfl .i64 .i64 kk (by omega) (by omega) X
  have hmv := fun X => run_make_row' (P := Try.prog) 34 5 (.int .u8 0) 1 Try.underlying34 info8 rfl .i64 .i64 vv (by omega) (by omega) X
  have hk1 : (kk : Int) = 4097 := by omega
  have hv1 : (vv : Int) = 65537 := by omega
  rw [hk1] at hmk
  rw [hv1] at hmv
  obtain ⟨x10, hx10⟩ : ∃ X, w11.alloc (.cells (madeCells #[.int .u8 0] kk) 5) = X := ⟨_, rfl⟩
  have hbx10 : Below w11.heap.size w11 x10 := by rw [← hx10]; exact (Below.refl _ _).alloc (Nat.le_refl _) _
  have HBx10 := Lib.hid (HBw11.out.trans (hbx10.mono HBw11.out.size))
  have HTx10 := Lib.hid (HTw11.out.next hbx10)
  have HZx10 := Lib.hid (HZw11.out.next hbx10)
  have HC10 := Lib.hid (putNo (some ⟨w11.heap.size, 0, none⟩) none (.pointer none) kk 0 kk 0 x10 (by omega))
  have HVV : Hid (65536 < vv) := by show _ < _; omega
  clear hbx10 hkk hvv hk1 hv1
  go_wp2_with fail
  try rw [hw11]
  try rw [hx10]
  clear hw11 hx10
  refine HC10.out.mono ?_
  rintro e w' ⟨rfl, rfl⟩
  clear s10 hmk HC10
  obtain ⟨x11, hx11⟩ : ∃ X, x10.alloc (.cells (madeCells #[.int .u8 0] vv) 5) = X := ⟨_, rfl⟩
  have hbx11 : Below x10.heap.size x10 x11 := by rw [← hx11]; exact (Below.refl _ _).alloc (Nat.le_refl _) _
  have HBx11 := Lib.hid (HBx10.out.trans (hbx11.mono HBx10.out.size))
  have HTx11 := Lib.hid (HTx10.out.next hbx11)
  have HZx11 := Lib.hid (HZx10.out.next hbx11)
  have HC11 := Lib.hid (putNo none (some ⟨x10.heap.size, 0, none⟩) (.pointer (some ⟨w10.heap.size, 0, none⟩)) 0 vv 0 vv x11 (.inr HVV.out))
  clear hbx11
  go_wp2_with fail
  try rw [hx11]
  clear hx11
  refine HC11.out.mono ?_
  rintro e w' ⟨rfl, rfl⟩
  clear hmv HC11
  have HC12 := Lib.hid (putG (M := [([], [])]) none none 0 0 [] [] x11 (treeV_nil x11) (fun h => absurd rfl h) (fun h => absurd rfl h) (by decide) (by decide) (by decide) rfl)
  go_wp2_with fail
  refine HC12.out.mono ?_
  rintro e w12 ⟨b12, rfl, ht12, hb12⟩
  have HBw12 := Lib.hid (HBx11.out.trans (hb12.mono HBx11.out.size))
  have HTw12 := Lib.hid (HTx11.out.next hb12)
  have HZw12 := Lib.hid (HZx11.out.next hb12)
  have HC13 := Lib.hid (getG none 0 [] [] w12 ht12 (fun h => absurd rfl h) rfl)
  clear ht12 hb12 HC12
  go_wp2_with fail
  refine HC13.out.mono ?_
  rintro e w13 ⟨A13, c13, rfl, _, hb13⟩
  have HBw13 := Lib.hid (HBw12.out.trans (hb13.mono HBw12.out.size))
  have HTw13 := Lib.hid (HTw12.out.next hb13)
  have HZw13 := Lib.hid (HZw12.out.next hb13)
  have HC14 := Lib.hid ((seekM_any none 0 [] w13 (treeV_nil w13) (fun h => absurd rfl h : SlB w13 w13.heap.size none []) (Nat.le_refl _)).mono (R' := PrEnd w13 [] [] false) fun _ _ h => prEnd_of h rfl rfl)
  clear hb13 HC13
  go_wp2_with fail
  refine HC14.out.mono ?_
  rintro e z14 ⟨A14, c14, D14, d14, rfl, _, _, hb14⟩
  have HBz14 := Lib.hid (HBw13.out.trans (hb14.mono HBw13.out.size))
  have HTz14 := Lib.hid (HTw13.out.next hb14)
  have HZz14 := Lib.hid (HZw13.out.next hb14)
  obtain ⟨q14, hq14⟩ : ∃ X, z14.alloc (.cells #[.slice A14 0 c14, .slice D14 0 d14] 57) = X := ⟨_, rfl⟩
  have hbq14 : Below z14.heap.size z14 q14 := by rw [← hq14]; exact (Below.refl _ _).alloc (Nat.le_refl _) _
  have HBq14 := Lib.hid (HBz14.out.trans (hbq14.mono HBz14.out.size))
  have HTq14 := Lib.hid (HTz14.out.next hbq14)
  have HZq14 := Lib.hid (HZz14.out.next hbq14)
  have HC15 := Lib.hid ((atM_any 0 q14 HZq14.out (by decide) (by decide)).mono (R' := PrEnd q14 [] [] false) fun _ _ h => prEnd_of h rfl rfl)
  clear hb14 hbq14 HC14
  go_wp2_with fail
  try rw [hq14]
  clear hq14
  refine HC15.out.mono ?_
  rintro e z15 ⟨A15, c15, D15, d15, rfl, _, _, hb15⟩
  have HBz15 := Lib.hid (HBq14.out.trans (hb15.mono HBq14.out.size))
  have HTz15 := Lib.hid (HTq14.out.next hb15)
  have HZz15 := Lib.hid (HZq14.out.next hb15)
  obtain ⟨q15, hq15⟩ : ∃ X, z15.alloc (.cells #[.slice A15 0 c15, .slice D15 0 d15] 57) = X := ⟨_, rfl⟩
  have hbq15 : Below z15.heap.size z15 q15 := by rw [← hq15]; exact (Below.refl _ _).alloc (Nat.le_refl _) _
  have HBq15 := Lib.hid (HBz15.out.trans (hbq15.mono HBz15.out.size))
  have HTq15 := Lib.hid (HTz15.out.next hbq15)
  have HZq15 := Lib.hid (HZz15.out.next hbq15)
  have HC16 := Lib.hid (len_any q15 (treeV_nil q15))
  rw [show (([] : List Pr).length) = 0 from rfl] at HC16
  clear hb15 hbq15 HC15
  go_wp2_with fail
  try rw [hq15]
  clear hq15
  refine HC16.out.mono ?_
  rintro e w' ⟨rfl, rfl⟩
  have HC17 := Lib.hid (rankM_any none 0 [] q15 HZq15.out (fun h => absurd rfl h : SlB q15 q15.heap.size none []))
  rw [show rankL ([] : List Pr) [] = 0 from rfl] at HC17
  clear HC16
  go_wp2_with fail
  refine HC17.out.mono ?_
  rintro e w' ⟨rfl, rfl⟩
  have HC18 := Lib.hid (rngG (M := []) none none 0 0 [] [] 9 q15 (treeV_nil q15) (fun h => absurd rfl h) (fun h => absurd rfl h) rfl)
  clear HC17
  go_wp2_with fail
  refine HC18.out.mono ?_
  rintro e w18 ⟨A18, c18, _, rfl, _, _, hb18⟩
  have HBw18 := Lib.hid (HBq15.out.trans (hb18.mono HBq15.out.size))
  have HTw18 := Lib.hid (HTq15.out.next hb18)
  have HZw18 := Lib.hid (HZq15.out.next hb18)
  have HC19 := Lib.hid (cutG (M := []) none 0 [] w18 (treeV_nil w18) (fun h => absurd rfl h) rfl)
  clear hb18 HC18
  go_wp2_with fail
  refine HC19.out.mono ?_
  rintro e w19 ⟨b19, rfl, ht19, hb19⟩
  have HBw19 := Lib.hid (HBw18.out.trans (hb19.mono HBw18.out.size))
  have HTw19 := Lib.hid (HTw18.out.next hb19)
  have HZw19 := Lib.hid (HZw18.out.next hb19)
  have HC20 := Lib.hid (len_any w19 ht19)
  rw [show (([] : List Pr).length) = 0 from rfl] at HC20
  clear ht19 hb19 HC19
  go_wp2_with fail
  refine HC20.out.mono ?_
  rintro e w' ⟨rfl, rfl⟩
  have HC21 := Lib.hid (diffG (M := []) w19 HZw19.out (treeV_nil w19) rfl)
  clear HC20
  go_wp2_with fail
  refine HC21.out.mono ?_
  rintro e w21 ⟨A21, c21, _, rfl, _, _, hb21⟩
  have HBw21 := Lib.hid (HBw19.out.trans (hb21.mono HBw19.out.size))
  have HTw21 := Lib.hid (HTw19.out.next hb21)
  have HZw21 := Lib.hid (HZw19.out.next hb21)
  have HC22 := Lib.hid (rngG (M := []) none none 0 0 [] [] (-1) w21 HTw21.out (fun h => absurd rfl h) (fun h => absurd rfl h) rfl)
  clear hb21 HC21
  go_wp2_with fail
  refine HC22.out.mono ?_
  rintro e w22 ⟨A22, c22, _, rfl, _, _, hb22⟩
  have HBw22 := Lib.hid (HBw21.out.trans (hb22.mono HBw21.out.size))
  have HTw22 := Lib.hid (HTw21.out.next hb22)
  have HZw22 := Lib.hid (HZw21.out.next hb22)
  have HC23 := Lib.hid (alive_any w22)
  clear hb22 HC22
  go_wp2_with fail
  refine HC23.out.mono ?_
  rintro e w23 ⟨rfl, hb23⟩
  have HBw23 := Lib.hid (HBw22.out.trans (hb23.mono HBw22.out.size))
  have HTw23 := Lib.hid (HTw22.out.next hb23)
  have HZw23 := Lib.hid (HZw22.out.next hb23)
  clear hb23
  go_wp2
  go_ret
  exact ⟨rfl, HBw23.out⟩
end Go.Proofs.Ythldmdcjfeekeaa
