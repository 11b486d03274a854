/-
  CONTRACTS: appendValue; the bytes of a number, a value.
-/
import Derived.Test.YtkoknogefmfmnaaOApp
import Derived.Deep.CutBlock
namespace Go.Proofs.Ytkoknogefmfmnaa
open Go.RowKit

/-- a value's own block -/
def ValAt (W : World) (b : Nat) (k n : Int) (s : ByteArray) : Prop := W.heap[b]? = some (.cells #[.int .i64 k, .int .i64 n, .string s] 24 (0, 0))
theorem ValAt.c0 {W : World} {b : Nat} {k n : Int} {s : ByteArray} (h : ValAt W b k n s) : W.cell? ⟨b, 0, none⟩ = some (.int .i64 k) := by unfold ValAt at h; simp [World.cell?, h]
theorem ValAt.c1 {W : World} {b : Nat} {k n : Int} {s : ByteArray} (h : ValAt W b k n s) : W.cell? ⟨b, 1, none⟩ = some (.int .i64 n) := by unfold ValAt at h; simp [World.cell?, h]
theorem ValAt.c2 {W : World} {b : Nat} {k n : Int} {s : ByteArray} (h : ValAt W b k n s) : W.cell? ⟨b, 2, none⟩ = some (.string s) := by unfold ValAt at h; simp [World.cell?, h]
theorem valAt_new (W : World) (k n : Int) (s : ByteArray) : ValAt (W.alloc (.cells #[.int .i64 k, .int .i64 n, .string s] 24)) W.heap.size k n s := heap_alloc_new W _
theorem ValAt.lt {W : World} {b : Nat} {k n : Int} {s : ByteArray} (h : ValAt W b k n s) : b < W.heap.size := (Array.getElem?_eq_some_iff.1 h).1
theorem ValAt.grown {W W' : World} {b B : Nat} {k n : Int} {s : ByteArray} {v : Value} {l : List UInt8} (h : ValAt W b k n s) (ho : OwnB W B v l) (hg : W.grownBy W' v.ownBlock) : ValAt W' b k n s :=
  (hg.block b h.lt (blk_own h (by decide) ho)).trans h
theorem ValAt.next {W W' : World} {b B : Nat} {k n : Int} {s : ByteArray} (h : ValAt W b k n s) (hb : Below B W W') (hB : b < B) : ValAt W' b k n s := (hb.block b hB).trans h
theorem ValAt.alloc {W : World} {b : Nat} {k n : Int} {s : ByteArray} (h : ValAt W b k n s) (o : Obj) : ValAt (W.alloc o) b k n s := (Below.heap_alloc W o b h.lt).trans h

set_option maxRecDepth 100000 in
set_option maxHeartbeats 1000000 in
theorem appendValue_1 (B : Nat) (b : Value) (l : List UInt8) (n : Int) (s : ByteArray) (W : World) (hown : OwnB W B b l) (hl : l.length ≤ 15000) (hB : B ≤ W.heap.size) (h0 : -9223372036854775808 ≤ n) (h1 : n ≤ 9223372036854775807) :
    Calls Try.prog 65 #[b, .agg #[.int .i64 1, .int .i64 n, .string s]] W (App W B (l ++ valB 1 n s)) := by
  obtain ⟨i0, hi, hz0, hz1, hz2⟩ := info_parts info8
  have hmx : 50000 ≤ maxLen := by decide
  obtain ⟨W0, hW0⟩ : ∃ W0, W.alloc (.cells #[.int .i64 1, .int .i64 n, .string s] 24) = W0 := ⟨_, rfl⟩
  have HO : Hid (OwnB W0 B b l) := by rw [← hW0]; exact hown.alloc _
  have HV : Hid (ValAt W0 W.heap.size 1 n s) := by rw [← hW0]; exact valAt_new W 1 n s
  have HB0 : Hid (Below B W W0) := by rw [← hW0]; exact (Below.refl _ _).alloc hB _
  have hB0 : B ≤ W0.heap.size := by rw [← hW0]; simp; omega
  have HW0 := Lib.hid hW0
  have tok : True := trivial
  clear hown hW0 hB
  go_enter Try.func65, Try.ntmps65
  go_upto_region 1 with (fail)
  rw [HW0.out]
  have d0 := HV.out.c0
  have d1 := HV.out.c1
  have d2 := HV.out.c2
  go_wp2_with (at_builtin; have _t := tok; refine wpList_append_own _ rfl _ _ 39 rfl B 5 i0 (.int .u8 0) 1 1 Try.underlying39 hi hz0 hz1 hz2 rfl (by decide) _ _ _ rfl (HO.out.alloc _) ⟨W0.heap.size, 0, none⟩ 1 1 (cellsL [1]) rfl rfl (fun j u h => cell_lit _ _ _ j u h) (cellsL_one _) (by omega) (by omega) (by simp; omega) ?_; intro v' w3 hown' hgrow _; have HR3 : Hid (OwnB w3 B v' (l ++ [1])) := (by show World.ownsRow _ _ _ _ _ _ _; rw [← cellsL_app] at hown'; simpa [Nat.add_assoc] using hown'); have HB3 := Lib.hid ((HB0.out.alloc hB0 _).trans (below_own (HO.out.alloc _) hgrow (by simp; omega))); have hsz3 : B ≤ w3.heap.size := (by have := hgrow.size; simp at this; omega); have hv3 := (HV.out.alloc (.cells #[.int .u8 1] 5)).grown (HO.out.alloc _) hgrow; have c0 := hv3.c0; have c1 := hv3.c1; have c2 := hv3.c2; clear tok hown' hgrow hv3)
  refine (appendNumber_any B _ _ n _ HR3.out (by simp; omega) hsz3 h0 h1).mono ?_
  rintro e w4 ⟨v4, rfl, ho4, hb4⟩
  have HR4 := Lib.hid ho4
  have HB4 := Lib.hid (HB3.out.trans hb4)
  clear ho4 hb4 c0 c1 c2
  go_wp2
  go_ret
  refine app_mk ?_ HB4.out
  have h4 := HR4.out
  rw [List.append_assoc] at h4
  exact h4

set_option maxRecDepth 100000 in
set_option maxHeartbeats 1000000 in
theorem appendValue_5 (B : Nat) (b : Value) (l : List UInt8) (n : Int) (s : ByteArray) (W : World) (hown : OwnB W B b l) (hl : l.length ≤ 15000) (hB : B ≤ W.heap.size) (h0 : -9223372036854775808 ≤ n) (h1 : n ≤ 9223372036854775807) :
    Calls Try.prog 65 #[b, .agg #[.int .i64 5, .int .i64 n, .string s]] W (App W B (l ++ valB 5 n s)) := by
  obtain ⟨i0, hi, hz0, hz1, hz2⟩ := info_parts info8
  have hmx : 50000 ≤ maxLen := by decide
  obtain ⟨W0, hW0⟩ : ∃ W0, W.alloc (.cells #[.int .i64 5, .int .i64 n, .string s] 24) = W0 := ⟨_, rfl⟩
  have HO : Hid (OwnB W0 B b l) := by rw [← hW0]; exact hown.alloc _
  have HV : Hid (ValAt W0 W.heap.size 5 n s) := by rw [← hW0]; exact valAt_new W 5 n s
  have HB0 : Hid (Below B W W0) := by rw [← hW0]; exact (Below.refl _ _).alloc hB _
  have hB0 : B ≤ W0.heap.size := by rw [← hW0]; simp; omega
  have HW0 := Lib.hid hW0
  have tok : True := trivial
  clear hown hW0 hB
  go_enter Try.func65, Try.ntmps65
  go_upto_region 1 with (fail)
  rw [HW0.out]
  have d0 := HV.out.c0
  have d1 := HV.out.c1
  have d2 := HV.out.c2
  go_wp2_with (at_builtin; have _t := tok; refine wpList_append_own _ rfl _ _ 39 rfl B 5 i0 (.int .u8 0) 1 1 Try.underlying39 hi hz0 hz1 hz2 rfl (by decide) _ _ _ rfl (HO.out.alloc _) ⟨W0.heap.size, 0, none⟩ 1 1 (cellsL [5]) rfl rfl (fun j u h => cell_lit _ _ _ j u h) (cellsL_one _) (by omega) (by omega) (by simp; omega) ?_; intro v' w3 hown' hgrow _; have HR3 : Hid (OwnB w3 B v' (l ++ [5])) := (by show World.ownsRow _ _ _ _ _ _ _; rw [← cellsL_app] at hown'; simpa [Nat.add_assoc] using hown'); have HB3 := Lib.hid ((HB0.out.alloc hB0 _).trans (below_own (HO.out.alloc _) hgrow (by simp; omega))); have hsz3 : B ≤ w3.heap.size := (by have := hgrow.size; simp at this; omega); have hv3 := (HV.out.alloc (.cells #[.int .u8 5] 5)).grown (HO.out.alloc _) hgrow; have c0 := hv3.c0; have c1 := hv3.c1; have c2 := hv3.c2; clear tok hown' hgrow hv3)
  refine (appendNumber_any B _ _ n _ HR3.out (by simp; omega) hsz3 h0 h1).mono ?_
  rintro e w4 ⟨v4, rfl, ho4, hb4⟩
  have HR4 := Lib.hid ho4
  have HB4 := Lib.hid (HB3.out.trans hb4)
  clear ho4 hb4 c0 c1 c2
  go_wp2
  go_ret
  refine app_mk ?_ HB4.out
  have h4 := HR4.out
  rw [List.append_assoc] at h4
  exact h4

set_option maxRecDepth 100000 in
set_option maxHeartbeats 1000000 in
theorem appendValue_6 (B : Nat) (b : Value) (l : List UInt8) (n : Int) (s : ByteArray) (W : World) (hown : OwnB W B b l) (hl : l.length ≤ 15000) (hB : B ≤ W.heap.size) (h0 : -9223372036854775808 ≤ n) (h1 : n ≤ 9223372036854775807) :
    Calls Try.prog 65 #[b, .agg #[.int .i64 6, .int .i64 n, .string s]] W (App W B (l ++ valB 6 n s)) := by
  obtain ⟨i0, hi, hz0, hz1, hz2⟩ := info_parts info8
  have hmx : 50000 ≤ maxLen := by decide
  obtain ⟨W0, hW0⟩ : ∃ W0, W.alloc (.cells #[.int .i64 6, .int .i64 n, .string s] 24) = W0 := ⟨_, rfl⟩
  have HO : Hid (OwnB W0 B b l) := by rw [← hW0]; exact hown.alloc _
  have HV : Hid (ValAt W0 W.heap.size 6 n s) := by rw [← hW0]; exact valAt_new W 6 n s
  have HB0 : Hid (Below B W W0) := by rw [← hW0]; exact (Below.refl _ _).alloc hB _
  have hB0 : B ≤ W0.heap.size := by rw [← hW0]; simp; omega
  have HW0 := Lib.hid hW0
  have tok : True := trivial
  clear hown hW0 hB
  go_enter Try.func65, Try.ntmps65
  go_upto_region 1 with (fail)
  rw [HW0.out]
  have d0 := HV.out.c0
  have d1 := HV.out.c1
  have d2 := HV.out.c2
  go_wp2_with (at_builtin; have _t := tok; refine wpList_append_own _ rfl _ _ 39 rfl B 5 i0 (.int .u8 0) 1 1 Try.underlying39 hi hz0 hz1 hz2 rfl (by decide) _ _ _ rfl (HO.out.alloc _) ⟨W0.heap.size, 0, none⟩ 1 1 (cellsL [6]) rfl rfl (fun j u h => cell_lit _ _ _ j u h) (cellsL_one _) (by omega) (by omega) (by simp; omega) ?_; intro v' w3 hown' hgrow _; have HR3 : Hid (OwnB w3 B v' (l ++ [6])) := (by show World.ownsRow _ _ _ _ _ _ _; rw [← cellsL_app] at hown'; simpa [Nat.add_assoc] using hown'); have HB3 := Lib.hid ((HB0.out.alloc hB0 _).trans (below_own (HO.out.alloc _) hgrow (by simp; omega))); have hsz3 : B ≤ w3.heap.size := (by have := hgrow.size; simp at this; omega); have hv3 := (HV.out.alloc (.cells #[.int .u8 6] 5)).grown (HO.out.alloc _) hgrow; have c0 := hv3.c0; have c1 := hv3.c1; have c2 := hv3.c2; clear tok hown' hgrow hv3)
  refine (appendNumber_any B _ _ n _ HR3.out (by simp; omega) hsz3 h0 h1).mono ?_
  rintro e w4 ⟨v4, rfl, ho4, hb4⟩
  have HR4 := Lib.hid ho4
  have HB4 := Lib.hid (HB3.out.trans hb4)
  clear ho4 hb4 c0 c1 c2
  go_wp2
  go_ret
  refine app_mk ?_ HB4.out
  have h4 := HR4.out
  rw [List.append_assoc] at h4
  exact h4

set_option maxRecDepth 100000 in
set_option maxHeartbeats 1000000 in
theorem appendValue_2 (B : Nat) (b : Value) (l : List UInt8) (n : Int) (s : ByteArray) (W : World) (hown : OwnB W B b l) (hl : l.length ≤ 15000) (hB : B ≤ W.heap.size) (hn : n = 0 ∨ n = 1) :
    Calls Try.prog 65 #[b, .agg #[.int .i64 2, .int .i64 n, .string s]] W (App W B (l ++ valB 2 n s)) := by
  obtain ⟨c, hc⟩ : ∃ c : UInt8, UInt8.ofNat n.toNat = c := ⟨_, rfl⟩
  have hcn : (c.toNat : Int) = n := by rw [← hc]; rcases hn with rfl | rfl <;> rfl
  have HC := Lib.hid hc
  have HN := Lib.hid hcn
  clear hc hcn
  obtain ⟨i0, hi, hz0, hz1, hz2⟩ := info_parts info8
  have hmx : 50000 ≤ maxLen := by decide
  obtain ⟨W0, hW0⟩ : ∃ W0, W.alloc (.cells #[.int .i64 2, .int .i64 n, .string s] 24) = W0 := ⟨_, rfl⟩
  have HO : Hid (OwnB W0 B b l) := by rw [← hW0]; exact hown.alloc _
  have HV : Hid (ValAt W0 W.heap.size 2 n s) := by rw [← hW0]; exact valAt_new W 2 n s
  have HB0 : Hid (Below B W W0) := by rw [← hW0]; exact (Below.refl _ _).alloc hB _
  have hB0 : B ≤ W0.heap.size := by rw [← hW0]; simp; omega
  have HW0 := Lib.hid hW0
  have tok : True := trivial
  clear hown hW0 hB
  go_enter Try.func65, Try.ntmps65
  go_upto_region 1 with (fail)
  rw [HW0.out]
  have d0 := HV.out.c0
  have d1 := HV.out.c1
  have d2 := HV.out.c2
  have n0 : 0 ≤ n := by omega
  have n1 : n ≤ 1 := by omega
  clear hn
  go_wp2_with (first | (at_builtin; have _t := tok; refine wpList_append_own _ rfl _ _ 39 rfl B 5 i0 (.int .u8 0) 1 1 Try.underlying39 hi hz0 hz1 hz2 rfl (by decide) _ _ _ rfl (HO.out.alloc _) ⟨W0.heap.size, 0, none⟩ 1 1 (cellsL [2]) rfl rfl (fun j u h => cell_lit _ _ _ j u h) (cellsL_one _) (by omega) (by omega) (by simp; omega) ?_; intro v' w3 hown' hgrow _; have HR3 : Hid (OwnB w3 B v' (l ++ [2])) := (by show World.ownsRow _ _ _ _ _ _ _; rw [← cellsL_app] at hown'; simpa [Nat.add_assoc] using hown'); have HB3 := Lib.hid ((HB0.out.alloc hB0 _).trans (below_own (HO.out.alloc _) hgrow (by simp; omega))); have hsz3 : B ≤ w3.heap.size := (by have := hgrow.size; simp at this; omega); have hv3 := (HV.out.alloc (.cells #[.int .u8 2] 5)).grown (HO.out.alloc _) hgrow; have c0 := hv3.c0; have c1 := hv3.c1; have c2 := hv3.c2; clear tok hown' hgrow hv3) | (at_builtin; refine wpList_append_own _ rfl _ _ 39 rfl B 5 i0 (.int .u8 0) 1 1 Try.underlying39 hi hz0 hz1 hz2 rfl (by decide) _ _ _ rfl (HR3.out.alloc _) ⟨w3.heap.size, 0, none⟩ 1 1 (cellsL [c]) rfl rfl (fun j u h => cell_lit _ _ _ j u (by rw [← h, ← HN.out]; rfl)) (cellsL_one _) (by simp; omega) (by simp; omega) (by simp; omega) ?_; intro v'' w4 hown'' hgrow' _))
  go_ret
  refine app_mk ?_ (HB3.out.trans (((Below.refl _ _).alloc hsz3 _).trans (below_own (HR3.out.alloc _) hgrow' (by simp; omega))))
  rw [← cellsL_app] at hown''
  show World.ownsRow _ _ _ _ _ (l ++ (2 :: [UInt8.ofNat n.toNat])).length _
  rw [HC.out]
  simpa [Nat.add_assoc, valB, tailB, HC.out] using hown''

set_option maxRecDepth 100000 in
set_option maxHeartbeats 1000000 in
theorem appendValue_3 (B : Nat) (b : Value) (l : List UInt8) (s : ByteArray) (W : World) (hown : OwnB W B b l) (hl : l.length ≤ 15000) (hB : B ≤ W.heap.size) (hs : s.size ≤ 5000) :
    Calls Try.prog 65 #[b, .agg #[.int .i64 3, .int .i64 0, .string s]] W (App W B (l ++ valB 3 0 s)) := by
  obtain ⟨i0, hi, hz0, hz1, hz2⟩ := info_parts info8
  have hmx : 50000 ≤ maxLen := by decide
  obtain ⟨W0, hW0⟩ : ∃ W0, W.alloc (.cells #[.int .i64 3, .int .i64 0, .string s] 24) = W0 := ⟨_, rfl⟩
  have HO : Hid (OwnB W0 B b l) := by rw [← hW0]; exact hown.alloc _
  have HV : Hid (ValAt W0 W.heap.size 3 0 s) := by rw [← hW0]; exact valAt_new W 3 0 s
  have HB0 : Hid (Below B W W0) := by rw [← hW0]; exact (Below.refl _ _).alloc hB _
  have hB0 : B ≤ W0.heap.size := by rw [← hW0]; simp; omega
  have HW0 := Lib.hid hW0
  have tok : True := trivial
  clear hown hW0 hB
  go_enter Try.func65, Try.ntmps65
  go_upto_region 1 with (fail)
  rw [HW0.out]
  have d0 := HV.out.c0
  have d1 := HV.out.c1
  have d2 := HV.out.c2
  go_wp2_with (at_builtin; have _t := tok; refine wpList_append_own _ rfl _ _ 39 rfl B 5 i0 (.int .u8 0) 1 1 Try.underlying39 hi hz0 hz1 hz2 rfl (by decide) _ _ _ rfl (HO.out.alloc _) ⟨W0.heap.size, 0, none⟩ 1 1 (cellsL [3]) rfl rfl (fun j u h => cell_lit _ _ _ j u h) (cellsL_one _) (by omega) (by omega) (by simp; omega) ?_; intro v' w3 hown' hgrow _; have HR3 : Hid (OwnB w3 B v' (l ++ [3])) := (by show World.ownsRow _ _ _ _ _ _ _; rw [← cellsL_app] at hown'; simpa [Nat.add_assoc] using hown'); have HB3 := Lib.hid ((HB0.out.alloc hB0 _).trans (below_own (HO.out.alloc _) hgrow (by simp; omega))); have hsz3 : B ≤ w3.heap.size := (by have := hgrow.size; simp at this; omega); have hv3 := (HV.out.alloc (.cells #[.int .u8 3] 5)).grown (HO.out.alloc _) hgrow; have c0 := hv3.c0; have c1 := hv3.c1; have c2 := hv3.c2; clear tok hown' hgrow hv3)
  refine (appendString_any B _ _ s _ HR3.out (by simp; omega) hsz3 hs).mono ?_
  rintro e w4 ⟨v4, rfl, ho4, hb4⟩
  have HR4 := Lib.hid ho4
  have HB4 := Lib.hid (HB3.out.trans hb4)
  clear ho4 hb4 c0 c1 c2
  go_wp2
  go_ret
  refine app_mk ?_ HB4.out
  have h4 := HR4.out
  rw [List.append_assoc] at h4
  exact h4

set_option maxRecDepth 100000 in
set_option maxHeartbeats 1000000 in
theorem appendValue_4 (B : Nat) (b : Value) (l : List UInt8) (s : ByteArray) (W : World) (hown : OwnB W B b l) (hl : l.length ≤ 15000) (hB : B ≤ W.heap.size) (hs : s.size ≤ 5000) :
    Calls Try.prog 65 #[b, .agg #[.int .i64 4, .int .i64 0, .string s]] W (App W B (l ++ valB 4 0 s)) := by
  obtain ⟨i0, hi, hz0, hz1, hz2⟩ := info_parts info8
  have hmx : 50000 ≤ maxLen := by decide
  obtain ⟨W0, hW0⟩ : ∃ W0, W.alloc (.cells #[.int .i64 4, .int .i64 0, .string s] 24) = W0 := ⟨_, rfl⟩
  have HO : Hid (OwnB W0 B b l) := by rw [← hW0]; exact hown.alloc _
  have HV : Hid (ValAt W0 W.heap.size 4 0 s) := by rw [← hW0]; exact valAt_new W 4 0 s
  have HB0 : Hid (Below B W W0) := by rw [← hW0]; exact (Below.refl _ _).alloc hB _
  have hB0 : B ≤ W0.heap.size := by rw [← hW0]; simp; omega
  have HW0 := Lib.hid hW0
  have tok : True := trivial
  clear hown hW0 hB
  go_enter Try.func65, Try.ntmps65
  go_upto_region 1 with (fail)
  rw [HW0.out]
  have d0 := HV.out.c0
  have d1 := HV.out.c1
  have d2 := HV.out.c2
  go_wp2_with (at_builtin; have _t := tok; refine wpList_append_own _ rfl _ _ 39 rfl B 5 i0 (.int .u8 0) 1 1 Try.underlying39 hi hz0 hz1 hz2 rfl (by decide) _ _ _ rfl (HO.out.alloc _) ⟨W0.heap.size, 0, none⟩ 1 1 (cellsL [4]) rfl rfl (fun j u h => cell_lit _ _ _ j u h) (cellsL_one _) (by omega) (by omega) (by simp; omega) ?_; intro v' w3 hown' hgrow _; have HR3 : Hid (OwnB w3 B v' (l ++ [4])) := (by show World.ownsRow _ _ _ _ _ _ _; rw [← cellsL_app] at hown'; simpa [Nat.add_assoc] using hown'); have HB3 := Lib.hid ((HB0.out.alloc hB0 _).trans (below_own (HO.out.alloc _) hgrow (by simp; omega))); have hsz3 : B ≤ w3.heap.size := (by have := hgrow.size; simp at this; omega); have hv3 := (HV.out.alloc (.cells #[.int .u8 4] 5)).grown (HO.out.alloc _) hgrow; have c0 := hv3.c0; have c1 := hv3.c1; have c2 := hv3.c2; clear tok hown' hgrow hv3)
  refine (appendString_any B _ _ s _ HR3.out (by simp; omega) hsz3 hs).mono ?_
  rintro e w4 ⟨v4, rfl, ho4, hb4⟩
  have HR4 := Lib.hid ho4
  have HB4 := Lib.hid (HB3.out.trans hb4)
  clear ho4 hb4 c0 c1 c2
  go_wp2
  go_ret
  refine app_mk ?_ HB4.out
  have h4 := HR4.out
  rw [List.append_assoc] at h4
  exact h4

set_option maxRecDepth 100000 in
set_option maxHeartbeats 1000000 in
theorem appendValue_7 (B : Nat) (b : Value) (l : List UInt8) (s : ByteArray) (W : World) (hown : OwnB W B b l) (hl : l.length ≤ 15000) (hB : B ≤ W.heap.size) (hs : s.size ≤ 5000) :
    Calls Try.prog 65 #[b, .agg #[.int .i64 7, .int .i64 0, .string s]] W (App W B (l ++ valB 7 0 s)) := by
  obtain ⟨i0, hi, hz0, hz1, hz2⟩ := info_parts info8
  have hmx : 50000 ≤ maxLen := by decide
  obtain ⟨W0, hW0⟩ : ∃ W0, W.alloc (.cells #[.int .i64 7, .int .i64 0, .string s] 24) = W0 := ⟨_, rfl⟩
  have HO : Hid (OwnB W0 B b l) := by rw [← hW0]; exact hown.alloc _
  have HV : Hid (ValAt W0 W.heap.size 7 0 s) := by rw [← hW0]; exact valAt_new W 7 0 s
  have HB0 : Hid (Below B W W0) := by rw [← hW0]; exact (Below.refl _ _).alloc hB _
  have hB0 : B ≤ W0.heap.size := by rw [← hW0]; simp; omega
  have HW0 := Lib.hid hW0
  have tok : True := trivial
  clear hown hW0 hB
  go_enter Try.func65, Try.ntmps65
  go_upto_region 1 with (fail)
  rw [HW0.out]
  have d0 := HV.out.c0
  have d1 := HV.out.c1
  have d2 := HV.out.c2
  go_wp2_with (at_builtin; have _t := tok; refine wpList_append_own _ rfl _ _ 39 rfl B 5 i0 (.int .u8 0) 1 1 Try.underlying39 hi hz0 hz1 hz2 rfl (by decide) _ _ _ rfl (HO.out.alloc _) ⟨W0.heap.size, 0, none⟩ 1 1 (cellsL [7]) rfl rfl (fun j u h => cell_lit _ _ _ j u h) (cellsL_one _) (by omega) (by omega) (by simp; omega) ?_; intro v' w3 hown' hgrow _; have HR3 : Hid (OwnB w3 B v' (l ++ [7])) := (by show World.ownsRow _ _ _ _ _ _ _; rw [← cellsL_app] at hown'; simpa [Nat.add_assoc] using hown'); have HB3 := Lib.hid ((HB0.out.alloc hB0 _).trans (below_own (HO.out.alloc _) hgrow (by simp; omega))); have hsz3 : B ≤ w3.heap.size := (by have := hgrow.size; simp at this; omega); have hv3 := (HV.out.alloc (.cells #[.int .u8 7] 5)).grown (HO.out.alloc _) hgrow; have c0 := hv3.c0; have c1 := hv3.c1; have c2 := hv3.c2; clear tok hown' hgrow hv3)
  refine (appendString_any B _ _ s _ HR3.out (by simp; omega) hsz3 hs).mono ?_
  rintro e w4 ⟨v4, rfl, ho4, hb4⟩
  have HR4 := Lib.hid ho4
  have HB4 := Lib.hid (HB3.out.trans hb4)
  clear ho4 hb4 c0 c1 c2
  go_wp2
  go_ret
  refine app_mk ?_ HB4.out
  have h4 := HR4.out
  rw [List.append_assoc] at h4
  exact h4

theorem appendValue_any (B : Nat) (b : Value) (l : List UInt8) (k n : Int) (s : ByteArray) (W : World) (hown : OwnB W B b l) (hl : l.length ≤ 15000) (hB : B ≤ W.heap.size) (hs : s.size ≤ 5000) (h0 : -9223372036854775808 ≤ n) (h1 : n ≤ 9223372036854775807) (hm : mayB k n s = true) :
    Calls Try.prog 65 #[b, .agg #[.int .i64 k, .int .i64 n, .string s]] W (App W B (l ++ valB k n s)) := by
  have hk := may_kind hm
  have h7 : k = 1 ∨ k = 2 ∨ k = 3 ∨ k = 4 ∨ k = 5 ∨ k = 6 ∨ k = 7 := by omega
  rcases h7 with rfl | rfl | rfl | rfl | rfl | rfl | rfl
  · exact appendValue_1 B b l n s W hown hl hB h0 h1
  · exact appendValue_2 B b l n s W hown hl hB (may_bool hm).2
  · obtain rfl := may_str hm (by simp)
    exact appendValue_3 B b l s W hown hl hB hs
  · obtain rfl := may_str hm (by simp)
    exact appendValue_4 B b l s W hown hl hB hs
  · exact appendValue_5 B b l n s W hown hl hB h0 h1
  · exact appendValue_6 B b l n s W hown hl hB h0 h1
  · obtain rfl := may_str hm (by simp)
    exact appendValue_7 B b l s W hown hl hB hs

end Go.Proofs.Ytkoknogefmfmnaa
