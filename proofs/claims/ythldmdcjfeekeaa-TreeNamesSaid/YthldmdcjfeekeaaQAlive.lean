/-
  CONTRACTS: told, of, alive (the statements' own).
-/
import Derived.Test.YthldmdcjfeekeaaQMet2
import Derived.Test.YthldmdcjfeekeaaQArgs
import Derived.Lib.SlBytesConst
import Derived.Lib.ConvBytes
namespace Go.Proofs.Ythldmdcjfeekeaa
open Go.RowKit

def toldE (p : Pr) (is : Bool) (k x : ByteArray) : Bool := is && (p.1 == k.data.toList) && (p.2 == x.data.toList)
set_option maxRecDepth 100000 in
set_option maxHeartbeats 1000000 in
theorem toldB_any {w : World} (A A' : Option Addr) (c c' : Nat) (p : Pr) (is : Bool) (k x : ByteArray) (h1 : SlB w w.heap.size A p.1) (h2 : SlB w w.heap.size A' p.2) :
    Calls Try.prog 23 #[.agg #[.slice A p.1.length c, .slice A' p.2.length c'], .bool is, .string k, .string x] w fun e w' => e = .returned (.bool (toldE p is k x)) ∧ Below w.heap.size w w' := by
  obtain ⟨w1, hw1⟩ : ∃ X, w.alloc (.cells #[.slice A p.1.length c, .slice A' p.2.length c'] 57) = X := ⟨_, rfl⟩
  have hb1 : Below w.heap.size w w1 := by rw [← hw1]; exact (Below.refl _ _).alloc (Nat.le_refl _) _
  have hp1 : PBox w1 w.heap.size (.slice A p.1.length c) (.slice A' p.2.length c') := by rw [← hw1]; exact heap_alloc_new w _
  have c0 := hp1.c0
  have c1 := hp1.c1
  have s1 := slB_string (h1.next hb1 (Nat.le_refl _)) c
  have s2 := slB_string (h2.next hb1 (Nat.le_refl _)) c'
  have HB := Lib.hid hb1
  clear h1 h2 hb1 hp1
  cases is with
  | false =>
    go_enter Try.func23, Try.ntmps23
    go_wp2
    try rw [hw1]
    go_ret
    exact ⟨rfl, HB.out⟩
  | true =>
    obtain ⟨e1, he1⟩ : ∃ e, (p.1 == k.toList) = e := ⟨_, rfl⟩
    obtain ⟨e2, he2⟩ : ∃ e, (p.2 == x.toList) = e := ⟨_, rfl⟩
    have HE : Hid (toldE p true k x = (e1 && e2)) := by show _ = _; unfold toldE; rw [← he1, ← he2, ByteArray.toList_eq, ByteArray.toList_eq]; rfl
    cases e1 <;> cases e2 <;>
      (go_enter Try.func23, Try.ntmps23
       go_wp2
       try rw [hw1]
       go_ret
       exact ⟨by rw [HE.out]; rfl, HB.out⟩)
theorem convSB (w : World) (s : ByteArray) : ∃ c W', (convert 9 34 (.string s)).run Try.prog w = .ok (.slice (some ⟨w.heap.size, 0, none⟩) s.size c) W' ∧ Below w.heap.size w W' ∧ SlB W' W'.heap.size (some ⟨w.heap.size, 0, none⟩) s.data.toList := by
  refine ⟨_, _, Lib.run_convert_string_bytes w _ _ 5 s Try.underlying9 Try.underlying34 Try.underlying5, ⟨rfl, rfl, rfl, by rw [Lib.bytesWorld_size]; omega, fun k hk => Lib.bytesWorld_at_old w _ s k hk⟩, fun _ => ⟨_, rfl, by rw [Lib.bytesWorld_size]; exact Nat.lt_succ_self _, fun j x hx => ?_⟩⟩
  have hj : j < s.size := (List.getElem?_eq_some_iff.1 hx).1
  rw [add0, Lib.bytesWorld_cell w _ s j hj, List.getD_eq_getElem?_getD, hx]
  rfl
theorem lit_at (w : World) (d : UInt8) (v : Value) (hv : v = .int .u8 d.toNat) : SlB (w.alloc (.cells #[v] 5)) (w.alloc (.cells #[v] 5)).heap.size (some ⟨w.heap.size, 0, none⟩) [d] := fun _ => by
  subst hv
  refine ⟨_, rfl, by rw [World.size_alloc]; exact Nat.lt_succ_self _, fun j x hx => ?_⟩
  cases j with
  | zero =>
    have hx2 : d = x := by simpa using hx
    subst hx2
    rw [add0]
    simp only [World.cell?, heap_alloc_new]
    rfl
  | succ j => simp at hx
def DabEnd (w : World) (e : Ending) (w' : World) : Prop := ∃ u, e = .returned (.pointer u) ∧ TreeV w' (.pointer u) [([97], [49]), ([98], [50]), ([100], [52])] ∧ Below w.heap.size w w'
def dabL (j : Nat) : List Pr := if j = 0 then [] else if j = 1 then [([100], [52])] else if j = 2 then [([97], [49]), ([100], [52])] else [([97], [49]), ([98], [50]), ([100], [52])]
set_option maxRecDepth 100000 in
set_option maxHeartbeats 4000000 in
theorem ofDab_any (w : World) :
    Calls Try.prog 21 #[.string ⟨#[100, 97, 98]⟩] w (DabEnd w) := by
  go_enter Try.func21, Try.ntmps21
  go_wp2
  go_loopg [3, 4] 3 (fun gk t i wr => ∃ (j : Nat) (u : Option Addr), i = .int .i64 j ∧ t = .pointer u ∧ j + gk = 3 ∧ Hid (TreeV wr (.pointer u) (dabL j)) ∧ Hid (Below w.heap.size w wr))
  case atStart => exact ⟨0, none, rfl, rfl, rfl, treeV_nil _, Below.refl _ _⟩
  case round =>
    obtain ⟨j, u, rfl, rfl, hj, HT, HB⟩ := hrel
    cases gk with
    | zero =>
      obtain rfl : j = 3 := by omega
      have HF : Hid (DabEnd w (.returned (.pointer u)) wr) := ⟨u, rfl, HT.out, HB.out⟩
      go_wp2
      go_ret
      exact HF.out
    | succ g =>
      by_cases j0 : j = 0
      · subst j0
        have hsl : ∀ X, (Instr.slice 9 (.string ⟨#[100, 97, 98]⟩) (some (.int .i64 0)) (some (.int .i64 1)) none).run Try.prog X = .ok (.string ⟨#[100]⟩) X := fun _ => by kernel_rfl
        have hix : ∀ X, (Instr.index 9 (.string ⟨#[100, 97, 98]⟩) (.int .i64 0)).run Try.prog X = .ok (.int .u8 100) X := fun _ => by kernel_rfl
        have hwa : IntKind.i64.wrap 1 = 1 := by decide
        have hwb : IntKind.u8.wrap 3 = 3 := by decide
        have hwc : IntKind.u8.wrap 52 = 52 := by decide
        have HPT := Lib.hid (fun A1 A2 c1 c2 X (hX : Below wr.heap.size wr X) (h1 : SlB X X.heap.size A1 [100]) (h2 : SlB X X.heap.size A2 [52]) => putM_any (L := ([] : List Pr)) A1 A2 c1 c2 [100] [52] X (HT.out.next hX) h1 h2 (by decide) (by decide) (by decide))
        have HTT := HT
        clear HT
        go_wp2_with fail
        have HS0 := Lib.hid (qb_dn (Below.refl wr.heap.size wr) 1)
        obtain ⟨we, hwe⟩ : ∃ X, wr.drew = X := ⟨_, rfl⟩
        refine wp_region_held_drew (S := fun X => Below wr.heap.size wr X) (by kernel_rfl) HS0.out (fun hHeld => ?_)
        rw [hwe] at hHeld ⊢
        clear hwe HS0
        refine takeV 0 (some 12) ((.pointer u)) rfl rfl (by kernel_rfl) (by kernel_rfl) (by kernel_rfl) (fun _ _ _ h => h) (by rfl) (by (intro _w _hSw; (try dsimp only at _hSw); go_simp)) (by assumption) ?_
        simp only [Act.put, List.setIfInBounds_toArray, List.set_cons_zero, List.set_cons_succ]
        refine takeV 1 (some 13) ((.string ⟨#[100, 97, 98]⟩)) rfl rfl (by kernel_rfl) (by kernel_rfl) (by kernel_rfl) (fun _ _ _ h => h) (by rfl) (by (intro _w _hSw; (try dsimp only at _hSw); go_simp)) (by assumption) ?_
        simp only [Act.put, List.setIfInBounds_toArray, List.set_cons_zero, List.set_cons_succ]
        refine takeV 2 (some 14) ((.int .i64 0)) rfl rfl (by kernel_rfl) (by kernel_rfl) (by kernel_rfl) (fun _ _ _ h => h) (by rfl) (by (intro _w _hSw; (try dsimp only at _hSw); go_simp)) (by assumption) ?_
        simp only [Act.put, List.setIfInBounds_toArray, List.set_cons_zero, List.set_cons_succ]
        refine takeV 3 (some 15) ((.int .i64 0)) rfl rfl (by kernel_rfl) (by kernel_rfl) (by kernel_rfl) (fun _ _ _ h => h) (by rfl) (by (intro _w _hSw; (try dsimp only at _hSw); go_simp)) (by assumption) ?_
        simp only [Act.put, List.setIfInBounds_toArray, List.set_cons_zero, List.set_cons_succ]
        refine takeV 4 (some 16) ((.int .i64 1)) rfl rfl (by kernel_rfl) (by kernel_rfl) (by kernel_rfl) (fun _ _ _ h => h) (by rfl) (by (intro _w _hSw; (try dsimp only at _hSw); go_simp)) (by assumption) ?_
        simp only [Act.put, List.setIfInBounds_toArray, List.set_cons_zero, List.set_cons_succ]
        refine takeV 5 (some 17) ((.string ⟨#[100]⟩)) rfl rfl (by kernel_rfl) (by kernel_rfl) (by kernel_rfl) (fun _ _ _ h => h) (by rfl) (by (intro _w _hSw; (try dsimp only at _hSw); go_simp)) (by assumption) ?_
        simp only [Act.put, List.setIfInBounds_toArray, List.set_cons_zero, List.set_cons_succ]
        refine takeV 7 (some 19) ((.string ⟨#[100, 97, 98]⟩)) rfl rfl (by kernel_rfl) (by kernel_rfl) (by kernel_rfl) (fun _ _ _ h => h) (by rfl) (by (intro _w _hSw; (try dsimp only at _hSw); go_simp)) (by assumption) ?_
        simp only [Act.put, List.setIfInBounds_toArray, List.set_cons_zero, List.set_cons_succ]
        refine takeV 8 (some 20) ((.int .i64 0)) rfl rfl (by kernel_rfl) (by kernel_rfl) (by kernel_rfl) (fun _ _ _ h => h) (by rfl) (by (intro _w _hSw; (try dsimp only at _hSw); go_simp)) (by assumption) ?_
        simp only [Act.put, List.setIfInBounds_toArray, List.set_cons_zero, List.set_cons_succ]
        refine takeV 9 (some 21) ((.int .u8 100)) rfl rfl (by kernel_rfl) (by kernel_rfl) (by kernel_rfl) (fun _ _ _ h => h) (by rfl) (by (intro _w _hSw; (try dsimp only at _hSw); go_simp)) (by assumption) ?_
        simp only [Act.put, List.setIfInBounds_toArray, List.set_cons_zero, List.set_cons_succ]
        refine takeV 10 (some 22) ((.int .u8 3)) rfl rfl (by kernel_rfl) (by kernel_rfl) (by kernel_rfl) (fun _ _ _ h => h) (by rfl) (by (intro _w _hSw; (try dsimp only at _hSw); go_simp)) (by assumption) ?_
        simp only [Act.put, List.setIfInBounds_toArray, List.set_cons_zero, List.set_cons_succ]
        refine takeV 11 (some 23) ((.int .u8 52)) rfl rfl (by kernel_rfl) (by kernel_rfl) (by kernel_rfl) (fun _ _ _ h => h) (by rfl) (by (intro _w _hSw; (try dsimp only at _hSw); go_simp)) (by assumption) ?_
        simp only [Act.put, List.setIfInBounds_toArray, List.set_cons_zero, List.set_cons_succ]
        refine callW2 6 12 rfl rfl (by kernel_rfl) (by rfl) (by rfl) (fun K hK => ?_) (fun K hK => ?_)
        ·
          obtain ⟨cc, w5, hcv, hbw5, hsw5⟩ := convSB we ⟨#[100]⟩
          go_simp
          have HBw5 := Lib.hid hbw5
          have HSw5 : Hid (SlB w5 w5.heap.size (some ⟨we.heap.size, 0, none⟩) [100]) := hsw5
          refine hK.out _ _ (below_more hHeld hbw5 hHeld.size) (fun hHeld2 => ?_)
          clear hK K hHeld hcv hbw5 hsw5
          have hHeld := hHeld2
          clear hHeld2
          try simp only [Act.put, List.setIfInBounds_toArray, List.set_cons_zero, List.set_cons_succ]
          refine callV 12 rfl (by kernel_rfl) (by rfl) (fun K hK => ?_)
          go_simp
          obtain ⟨w6, hw6⟩ : ∃ X, w5.alloc (.cells #[.int .u8 52] 5) = X := ⟨_, rfl⟩
          have hbw6 : Below w5.heap.size w5 w6 := by rw [← hw6]; exact (Below.refl _ _).alloc (Nat.le_refl _) _
          have HBw6 := Lib.hid hbw6
          have HSw6 : Hid (SlB w6 w6.heap.size (some ⟨w5.heap.size, 0, none⟩) [52]) := by show SlB _ _ _ _; rw [← hw6]; exact lit_at w5 52 _ rfl
          rw [hw6]
          refine hK.out _ _ (below_more hHeld hbw6 hHeld.size) (fun hHeld2 => ?_)
          clear hK K hHeld hw6 hbw6
          have hHeld := hHeld2
          clear hHeld2
          try simp only [Act.put, List.setIfInBounds_toArray, List.set_cons_zero, List.set_cons_succ]
          refine callV 13 rfl (by kernel_rfl) (by rfl) (fun K hK => ?_)
          go_simp
          refine (HPT.out (some ⟨we.heap.size, 0, none⟩) (some ⟨w5.heap.size, 0, none⟩) cc 1 w6 hHeld (slB_up HSw5.out HBw6.out) HSw6.out).mono ?_
          rintro e w9 ⟨v9, rfl, ⟨b9, rfl⟩, ht9, hb9⟩
          have HT9 : Hid (TreeV w9 (.pointer (some ⟨b9, 0, none⟩)) [([100], [52])]) := ht9
          have HB9 := Lib.hid (HB.out.trans ((hHeld.trans (hb9.mono hHeld.size)).mono HB.out.size))
          refine hK.out _ _ (below_more hHeld hb9 hHeld.size) (fun hHeld2 => ?_)
          clear hK K hHeld ht9 hb9
          have hHeld := hHeld2
          clear hHeld2
          try simp only [Act.put, List.setIfInBounds_toArray, List.set_cons_zero, List.set_cons_succ]
          refine takeV 14 (some 11) ((.tuple #[.pointer (some ⟨b9, 0, none⟩), .int .i64 0])) rfl rfl (by kernel_rfl) (by kernel_rfl) (by kernel_rfl) (fun _ _ _ h => h) (by rfl) (by (intro _w _hSw; (try dsimp only at _hSw); go_simp)) (by assumption) ?_
          simp only [Act.put, List.setIfInBounds_toArray, List.set_cons_zero, List.set_cons_succ]
          refine takeV 15 (some 26) ((.pointer (some ⟨b9, 0, none⟩))) rfl rfl (by kernel_rfl) (by kernel_rfl) (by kernel_rfl) (fun _ _ _ h => h) (by rfl) (by (intro _w _hSw; (try dsimp only at _hSw); go_simp)) (by assumption) ?_
          simp only [Act.put, List.setIfInBounds_toArray, List.set_cons_zero, List.set_cons_succ]
          refine takeV 16 (some 27) ((.int .i64 0)) rfl rfl (by kernel_rfl) (by kernel_rfl) (by kernel_rfl) (fun _ _ _ h => h) (by rfl) (by (intro _w _hSw; (try dsimp only at _hSw); go_simp)) (by assumption) ?_
          simp only [Act.put, List.setIfInBounds_toArray, List.set_cons_zero, List.set_cons_succ]
          refine takeV 17 (some 3) ((.pointer (some ⟨b9, 0, none⟩))) rfl rfl (by kernel_rfl) (by kernel_rfl) (by kernel_rfl) (fun _ _ _ h => h) (by rfl) (by (intro _w _hSw; (try dsimp only at _hSw); go_simp)) (by assumption) ?_
          simp only [Act.put, List.setIfInBounds_toArray, List.set_cons_zero, List.set_cons_succ]
          refine wpAnyH_done (by kernel_rfl) ?_ _
          go_wp2
          go_roundg g
          case measure => omega
          case rel => exact ⟨1, some ⟨b9, 0, none⟩, by go_num, rfl, by omega, HT9.out, HB9.out⟩
        ·
          go_simp
          obtain ⟨w5, hw5⟩ : ∃ X, we.alloc (.cells #[.int .u8 52] 5) = X := ⟨_, rfl⟩
          have hbw5 : Below we.heap.size we w5 := by rw [← hw5]; exact (Below.refl _ _).alloc (Nat.le_refl _) _
          have HBw5 := Lib.hid hbw5
          have HSw5 : Hid (SlB w5 w5.heap.size (some ⟨we.heap.size, 0, none⟩) [52]) := by show SlB _ _ _ _; rw [← hw5]; exact lit_at we 52 _ rfl
          rw [hw5]
          refine hK.out _ _ (below_more hHeld hbw5 hHeld.size) (fun hHeld2 => ?_)
          clear hK K hHeld hw5 hbw5
          have hHeld := hHeld2
          clear hHeld2
          try simp only [Act.put, List.setIfInBounds_toArray, List.set_cons_zero, List.set_cons_succ]
          refine callV 6 rfl (by kernel_rfl) (by rfl) (fun K hK => ?_)
          obtain ⟨cc, w6, hcv, hbw6, hsw6⟩ := convSB w5 ⟨#[100]⟩
          go_simp
          have HBw6 := Lib.hid hbw6
          have HSw6 : Hid (SlB w6 w6.heap.size (some ⟨w5.heap.size, 0, none⟩) [100]) := hsw6
          refine hK.out _ _ (below_more hHeld hbw6 hHeld.size) (fun hHeld2 => ?_)
          clear hK K hHeld hcv hbw6 hsw6
          have hHeld := hHeld2
          clear hHeld2
          try simp only [Act.put, List.setIfInBounds_toArray, List.set_cons_zero, List.set_cons_succ]
          refine callV 13 rfl (by kernel_rfl) (by rfl) (fun K hK => ?_)
          go_simp
          refine (HPT.out (some ⟨w5.heap.size, 0, none⟩) (some ⟨we.heap.size, 0, none⟩) cc 1 w6 hHeld HSw6.out (slB_up HSw5.out HBw6.out)).mono ?_
          rintro e w9 ⟨v9, rfl, ⟨b9, rfl⟩, ht9, hb9⟩
          have HT9 : Hid (TreeV w9 (.pointer (some ⟨b9, 0, none⟩)) [([100], [52])]) := ht9
          have HB9 := Lib.hid (HB.out.trans ((hHeld.trans (hb9.mono hHeld.size)).mono HB.out.size))
          refine hK.out _ _ (below_more hHeld hb9 hHeld.size) (fun hHeld2 => ?_)
          clear hK K hHeld ht9 hb9
          have hHeld := hHeld2
          clear hHeld2
          try simp only [Act.put, List.setIfInBounds_toArray, List.set_cons_zero, List.set_cons_succ]
          refine takeV 14 (some 11) ((.tuple #[.pointer (some ⟨b9, 0, none⟩), .int .i64 0])) rfl rfl (by kernel_rfl) (by kernel_rfl) (by kernel_rfl) (fun _ _ _ h => h) (by rfl) (by (intro _w _hSw; (try dsimp only at _hSw); go_simp)) (by assumption) ?_
          simp only [Act.put, List.setIfInBounds_toArray, List.set_cons_zero, List.set_cons_succ]
          refine takeV 15 (some 26) ((.pointer (some ⟨b9, 0, none⟩))) rfl rfl (by kernel_rfl) (by kernel_rfl) (by kernel_rfl) (fun _ _ _ h => h) (by rfl) (by (intro _w _hSw; (try dsimp only at _hSw); go_simp)) (by assumption) ?_
          simp only [Act.put, List.setIfInBounds_toArray, List.set_cons_zero, List.set_cons_succ]
          refine takeV 16 (some 27) ((.int .i64 0)) rfl rfl (by kernel_rfl) (by kernel_rfl) (by kernel_rfl) (fun _ _ _ h => h) (by rfl) (by (intro _w _hSw; (try dsimp only at _hSw); go_simp)) (by assumption) ?_
          simp only [Act.put, List.setIfInBounds_toArray, List.set_cons_zero, List.set_cons_succ]
          refine takeV 17 (some 3) ((.pointer (some ⟨b9, 0, none⟩))) rfl rfl (by kernel_rfl) (by kernel_rfl) (by kernel_rfl) (fun _ _ _ h => h) (by rfl) (by (intro _w _hSw; (try dsimp only at _hSw); go_simp)) (by assumption) ?_
          simp only [Act.put, List.setIfInBounds_toArray, List.set_cons_zero, List.set_cons_succ]
          refine wpAnyH_done (by kernel_rfl) ?_ _
          go_wp2
          go_roundg g
          case measure => omega
          case rel => exact ⟨1, some ⟨b9, 0, none⟩, by go_num, rfl, by omega, HT9.out, HB9.out⟩
      by_cases j1 : j = 1
      · subst j1
        have hsl : ∀ X, (Instr.slice 9 (.string ⟨#[100, 97, 98]⟩) (some (.int .i64 1)) (some (.int .i64 2)) none).run Try.prog X = .ok (.string ⟨#[97]⟩) X := fun _ => by kernel_rfl
        have hix : ∀ X, (Instr.index 9 (.string ⟨#[100, 97, 98]⟩) (.int .i64 1)).run Try.prog X = .ok (.int .u8 97) X := fun _ => by kernel_rfl
        have hwa : IntKind.i64.wrap 2 = 2 := by decide
        have hwb : IntKind.u8.wrap 0 = 0 := by decide
        have hwc : IntKind.u8.wrap 49 = 49 := by decide
        have HPT := Lib.hid (fun A1 A2 c1 c2 X (hX : Below wr.heap.size wr X) (h1 : SlB X X.heap.size A1 [97]) (h2 : SlB X X.heap.size A2 [49]) => putM_any (L := [([100], [52])]) A1 A2 c1 c2 [97] [49] X (HT.out.next hX) h1 h2 (by decide) (by decide) (by decide))
        have HTT := HT
        clear HT
        go_wp2_with fail
        have HS0 := Lib.hid (qb_dn (Below.refl wr.heap.size wr) 1)
        obtain ⟨we, hwe⟩ : ∃ X, wr.drew = X := ⟨_, rfl⟩
        refine wp_region_held_drew (S := fun X => Below wr.heap.size wr X) (by kernel_rfl) HS0.out (fun hHeld => ?_)
        rw [hwe] at hHeld ⊢
        clear hwe HS0
        refine takeV 0 (some 12) ((.pointer u)) rfl rfl (by kernel_rfl) (by kernel_rfl) (by kernel_rfl) (fun _ _ _ h => h) (by rfl) (by (intro _w _hSw; (try dsimp only at _hSw); go_simp)) (by assumption) ?_
        simp only [Act.put, List.setIfInBounds_toArray, List.set_cons_zero, List.set_cons_succ]
        refine takeV 1 (some 13) ((.string ⟨#[100, 97, 98]⟩)) rfl rfl (by kernel_rfl) (by kernel_rfl) (by kernel_rfl) (fun _ _ _ h => h) (by rfl) (by (intro _w _hSw; (try dsimp only at _hSw); go_simp)) (by assumption) ?_
        simp only [Act.put, List.setIfInBounds_toArray, List.set_cons_zero, List.set_cons_succ]
        refine takeV 2 (some 14) ((.int .i64 1)) rfl rfl (by kernel_rfl) (by kernel_rfl) (by kernel_rfl) (fun _ _ _ h => h) (by rfl) (by (intro _w _hSw; (try dsimp only at _hSw); go_simp)) (by assumption) ?_
        simp only [Act.put, List.setIfInBounds_toArray, List.set_cons_zero, List.set_cons_succ]
        refine takeV 3 (some 15) ((.int .i64 1)) rfl rfl (by kernel_rfl) (by kernel_rfl) (by kernel_rfl) (fun _ _ _ h => h) (by rfl) (by (intro _w _hSw; (try dsimp only at _hSw); go_simp)) (by assumption) ?_
        simp only [Act.put, List.setIfInBounds_toArray, List.set_cons_zero, List.set_cons_succ]
        refine takeV 4 (some 16) ((.int .i64 2)) rfl rfl (by kernel_rfl) (by kernel_rfl) (by kernel_rfl) (fun _ _ _ h => h) (by rfl) (by (intro _w _hSw; (try dsimp only at _hSw); go_simp)) (by assumption) ?_
        simp only [Act.put, List.setIfInBounds_toArray, List.set_cons_zero, List.set_cons_succ]
        refine takeV 5 (some 17) ((.string ⟨#[97]⟩)) rfl rfl (by kernel_rfl) (by kernel_rfl) (by kernel_rfl) (fun _ _ _ h => h) (by rfl) (by (intro _w _hSw; (try dsimp only at _hSw); go_simp)) (by assumption) ?_
        simp only [Act.put, List.setIfInBounds_toArray, List.set_cons_zero, List.set_cons_succ]
        refine takeV 7 (some 19) ((.string ⟨#[100, 97, 98]⟩)) rfl rfl (by kernel_rfl) (by kernel_rfl) (by kernel_rfl) (fun _ _ _ h => h) (by rfl) (by (intro _w _hSw; (try dsimp only at _hSw); go_simp)) (by assumption) ?_
        simp only [Act.put, List.setIfInBounds_toArray, List.set_cons_zero, List.set_cons_succ]
        refine takeV 8 (some 20) ((.int .i64 1)) rfl rfl (by kernel_rfl) (by kernel_rfl) (by kernel_rfl) (fun _ _ _ h => h) (by rfl) (by (intro _w _hSw; (try dsimp only at _hSw); go_simp)) (by assumption) ?_
        simp only [Act.put, List.setIfInBounds_toArray, List.set_cons_zero, List.set_cons_succ]
        refine takeV 9 (some 21) ((.int .u8 97)) rfl rfl (by kernel_rfl) (by kernel_rfl) (by kernel_rfl) (fun _ _ _ h => h) (by rfl) (by (intro _w _hSw; (try dsimp only at _hSw); go_simp)) (by assumption) ?_
        simp only [Act.put, List.setIfInBounds_toArray, List.set_cons_zero, List.set_cons_succ]
        refine takeV 10 (some 22) ((.int .u8 0)) rfl rfl (by kernel_rfl) (by kernel_rfl) (by kernel_rfl) (fun _ _ _ h => h) (by rfl) (by (intro _w _hSw; (try dsimp only at _hSw); go_simp)) (by assumption) ?_
        simp only [Act.put, List.setIfInBounds_toArray, List.set_cons_zero, List.set_cons_succ]
        refine takeV 11 (some 23) ((.int .u8 49)) rfl rfl (by kernel_rfl) (by kernel_rfl) (by kernel_rfl) (fun _ _ _ h => h) (by rfl) (by (intro _w _hSw; (try dsimp only at _hSw); go_simp)) (by assumption) ?_
        simp only [Act.put, List.setIfInBounds_toArray, List.set_cons_zero, List.set_cons_succ]
        refine callW2 6 12 rfl rfl (by kernel_rfl) (by rfl) (by rfl) (fun K hK => ?_) (fun K hK => ?_)
        ·
          obtain ⟨cc, w5, hcv, hbw5, hsw5⟩ := convSB we ⟨#[97]⟩
          go_simp
          have HBw5 := Lib.hid hbw5
          have HSw5 : Hid (SlB w5 w5.heap.size (some ⟨we.heap.size, 0, none⟩) [97]) := hsw5
          refine hK.out _ _ (below_more hHeld hbw5 hHeld.size) (fun hHeld2 => ?_)
          clear hK K hHeld hcv hbw5 hsw5
          have hHeld := hHeld2
          clear hHeld2
          try simp only [Act.put, List.setIfInBounds_toArray, List.set_cons_zero, List.set_cons_succ]
          refine callV 12 rfl (by kernel_rfl) (by rfl) (fun K hK => ?_)
          go_simp
          obtain ⟨w6, hw6⟩ : ∃ X, w5.alloc (.cells #[.int .u8 49] 5) = X := ⟨_, rfl⟩
          have hbw6 : Below w5.heap.size w5 w6 := by rw [← hw6]; exact (Below.refl _ _).alloc (Nat.le_refl _) _
          have HBw6 := Lib.hid hbw6
          have HSw6 : Hid (SlB w6 w6.heap.size (some ⟨w5.heap.size, 0, none⟩) [49]) := by show SlB _ _ _ _; rw [← hw6]; exact lit_at w5 49 _ rfl
          rw [hw6]
          refine hK.out _ _ (below_more hHeld hbw6 hHeld.size) (fun hHeld2 => ?_)
          clear hK K hHeld hw6 hbw6
          have hHeld := hHeld2
          clear hHeld2
          try simp only [Act.put, List.setIfInBounds_toArray, List.set_cons_zero, List.set_cons_succ]
          refine callV 13 rfl (by kernel_rfl) (by rfl) (fun K hK => ?_)
          go_simp
          refine (HPT.out (some ⟨we.heap.size, 0, none⟩) (some ⟨w5.heap.size, 0, none⟩) cc 1 w6 hHeld (slB_up HSw5.out HBw6.out) HSw6.out).mono ?_
          rintro e w9 ⟨v9, rfl, ⟨b9, rfl⟩, ht9, hb9⟩
          have HT9 : Hid (TreeV w9 (.pointer (some ⟨b9, 0, none⟩)) [([97], [49]), ([100], [52])]) := ht9
          have HB9 := Lib.hid (HB.out.trans ((hHeld.trans (hb9.mono hHeld.size)).mono HB.out.size))
          refine hK.out _ _ (below_more hHeld hb9 hHeld.size) (fun hHeld2 => ?_)
          clear hK K hHeld ht9 hb9
          have hHeld := hHeld2
          clear hHeld2
          try simp only [Act.put, List.setIfInBounds_toArray, List.set_cons_zero, List.set_cons_succ]
          refine takeV 14 (some 11) ((.tuple #[.pointer (some ⟨b9, 0, none⟩), .int .i64 0])) rfl rfl (by kernel_rfl) (by kernel_rfl) (by kernel_rfl) (fun _ _ _ h => h) (by rfl) (by (intro _w _hSw; (try dsimp only at _hSw); go_simp)) (by assumption) ?_
          simp only [Act.put, List.setIfInBounds_toArray, List.set_cons_zero, List.set_cons_succ]
          refine takeV 15 (some 26) ((.pointer (some ⟨b9, 0, none⟩))) rfl rfl (by kernel_rfl) (by kernel_rfl) (by kernel_rfl) (fun _ _ _ h => h) (by rfl) (by (intro _w _hSw; (try dsimp only at _hSw); go_simp)) (by assumption) ?_
          simp only [Act.put, List.setIfInBounds_toArray, List.set_cons_zero, List.set_cons_succ]
          refine takeV 16 (some 27) ((.int .i64 0)) rfl rfl (by kernel_rfl) (by kernel_rfl) (by kernel_rfl) (fun _ _ _ h => h) (by rfl) (by (intro _w _hSw; (try dsimp only at _hSw); go_simp)) (by assumption) ?_
          simp only [Act.put, List.setIfInBounds_toArray, List.set_cons_zero, List.set_cons_succ]
          refine takeV 17 (some 3) ((.pointer (some ⟨b9, 0, none⟩))) rfl rfl (by kernel_rfl) (by kernel_rfl) (by kernel_rfl) (fun _ _ _ h => h) (by rfl) (by (intro _w _hSw; (try dsimp only at _hSw); go_simp)) (by assumption) ?_
          simp only [Act.put, List.setIfInBounds_toArray, List.set_cons_zero, List.set_cons_succ]
          refine wpAnyH_done (by kernel_rfl) ?_ _
          go_wp2
          go_roundg g
          case measure => omega
          case rel => exact ⟨2, some ⟨b9, 0, none⟩, by go_num, rfl, by omega, HT9.out, HB9.out⟩
        ·
          go_simp
          obtain ⟨w5, hw5⟩ : ∃ X, we.alloc (.cells #[.int .u8 49] 5) = X := ⟨_, rfl⟩
          have hbw5 : Below we.heap.size we w5 := by rw [← hw5]; exact (Below.refl _ _).alloc (Nat.le_refl _) _
          have HBw5 := Lib.hid hbw5
          have HSw5 : Hid (SlB w5 w5.heap.size (some ⟨we.heap.size, 0, none⟩) [49]) := by show SlB _ _ _ _; rw [← hw5]; exact lit_at we 49 _ rfl
          rw [hw5]
          refine hK.out _ _ (below_more hHeld hbw5 hHeld.size) (fun hHeld2 => ?_)
          clear hK K hHeld hw5 hbw5
          have hHeld := hHeld2
          clear hHeld2
          try simp only [Act.put, List.setIfInBounds_toArray, List.set_cons_zero, List.set_cons_succ]
          refine callV 6 rfl (by kernel_rfl) (by rfl) (fun K hK => ?_)
          obtain ⟨cc, w6, hcv, hbw6, hsw6⟩ := convSB w5 ⟨#[97]⟩
          go_simp
          have HBw6 := Lib.hid hbw6
          have HSw6 : Hid (SlB w6 w6.heap.size (some ⟨w5.heap.size, 0, none⟩) [97]) := hsw6
          refine hK.out _ _ (below_more hHeld hbw6 hHeld.size) (fun hHeld2 => ?_)
          clear hK K hHeld hcv hbw6 hsw6
          have hHeld := hHeld2
          clear hHeld2
          try simp only [Act.put, List.setIfInBounds_toArray, List.set_cons_zero, List.set_cons_succ]
          refine callV 13 rfl (by kernel_rfl) (by rfl) (fun K hK => ?_)
          go_simp
          refine (HPT.out (some ⟨w5.heap.size, 0, none⟩) (some ⟨we.heap.size, 0, none⟩) cc 1 w6 hHeld HSw6.out (slB_up HSw5.out HBw6.out)).mono ?_
          rintro e w9 ⟨v9, rfl, ⟨b9, rfl⟩, ht9, hb9⟩
          have HT9 : Hid (TreeV w9 (.pointer (some ⟨b9, 0, none⟩)) [([97], [49]), ([100], [52])]) := ht9
          have HB9 := Lib.hid (HB.out.trans ((hHeld.trans (hb9.mono hHeld.size)).mono HB.out.size))
          refine hK.out _ _ (below_more hHeld hb9 hHeld.size) (fun hHeld2 => ?_)
          clear hK K hHeld ht9 hb9
          have hHeld := hHeld2
          clear hHeld2
          try simp only [Act.put, List.setIfInBounds_toArray, List.set_cons_zero, List.set_cons_succ]
          refine takeV 14 (some 11) ((.tuple #[.pointer (some ⟨b9, 0, none⟩), .int .i64 0])) rfl rfl (by kernel_rfl) (by kernel_rfl) (by kernel_rfl) (fun _ _ _ h => h) (by rfl) (by (intro _w _hSw; (try dsimp only at _hSw); go_simp)) (by assumption) ?_
          simp only [Act.put, List.setIfInBounds_toArray, List.set_cons_zero, List.set_cons_succ]
          refine takeV 15 (some 26) ((.pointer (some ⟨b9, 0, none⟩))) rfl rfl (by kernel_rfl) (by kernel_rfl) (by kernel_rfl) (fun _ _ _ h => h) (by rfl) (by (intro _w _hSw; (try dsimp only at _hSw); go_simp)) (by assumption) ?_
          simp only [Act.put, List.setIfInBounds_toArray, List.set_cons_zero, List.set_cons_succ]
          refine takeV 16 (some 27) ((.int .i64 0)) rfl rfl (by kernel_rfl) (by kernel_rfl) (by kernel_rfl) (fun _ _ _ h => h) (by rfl) (by (intro _w _hSw; (try dsimp only at _hSw); go_simp)) (by assumption) ?_
          simp only [Act.put, List.setIfInBounds_toArray, List.set_cons_zero, List.set_cons_succ]
          refine takeV 17 (some 3) ((.pointer (some ⟨b9, 0, none⟩))) rfl rfl (by kernel_rfl) (by kernel_rfl) (by kernel_rfl) (fun _ _ _ h => h) (by rfl) (by (intro _w _hSw; (try dsimp only at _hSw); go_simp)) (by assumption) ?_
          simp only [Act.put, List.setIfInBounds_toArray, List.set_cons_zero, List.set_cons_succ]
          refine wpAnyH_done (by kernel_rfl) ?_ _
          go_wp2
          go_roundg g
          case measure => omega
          case rel => exact ⟨2, some ⟨b9, 0, none⟩, by go_num, rfl, by omega, HT9.out, HB9.out⟩
      obtain rfl : j = 2 := by omega
      have hsl : ∀ X, (Instr.slice 9 (.string ⟨#[100, 97, 98]⟩) (some (.int .i64 2)) (some (.int .i64 3)) none).run Try.prog X = .ok (.string ⟨#[98]⟩) X := fun _ => by kernel_rfl
      have hix : ∀ X, (Instr.index 9 (.string ⟨#[100, 97, 98]⟩) (.int .i64 2)).run Try.prog X = .ok (.int .u8 98) X := fun _ => by kernel_rfl
      have hwa : IntKind.i64.wrap 3 = 3 := by decide
      have hwb : IntKind.u8.wrap 1 = 1 := by decide
      have hwc : IntKind.u8.wrap 50 = 50 := by decide
      have HPT := Lib.hid (fun A1 A2 c1 c2 X (hX : Below wr.heap.size wr X) (h1 : SlB X X.heap.size A1 [98]) (h2 : SlB X X.heap.size A2 [50]) => putM_any (L := [([97], [49]), ([100], [52])]) A1 A2 c1 c2 [98] [50] X (HT.out.next hX) h1 h2 (by decide) (by decide) (by decide))
      have HTT := HT
      clear HT
      go_wp2_with fail
      have HS0 := Lib.hid (qb_dn (Below.refl wr.heap.size wr) 1)
      obtain ⟨we, hwe⟩ : ∃ X, wr.drew = X := ⟨_, rfl⟩
      refine wp_region_held_drew (S := fun X => Below wr.heap.size wr X) (by kernel_rfl) HS0.out (fun hHeld => ?_)
      rw [hwe] at hHeld ⊢
      clear hwe HS0
      refine takeV 0 (some 12) ((.pointer u)) rfl rfl (by kernel_rfl) (by kernel_rfl) (by kernel_rfl) (fun _ _ _ h => h) (by rfl) (by (intro _w _hSw; (try dsimp only at _hSw); go_simp)) (by assumption) ?_
      simp only [Act.put, List.setIfInBounds_toArray, List.set_cons_zero, List.set_cons_succ]
      refine takeV 1 (some 13) ((.string ⟨#[100, 97, 98]⟩)) rfl rfl (by kernel_rfl) (by kernel_rfl) (by kernel_rfl) (fun _ _ _ h => h) (by rfl) (by (intro _w _hSw; (try dsimp only at _hSw); go_simp)) (by assumption) ?_
      simp only [Act.put, List.setIfInBounds_toArray, List.set_cons_zero, List.set_cons_succ]
      refine takeV 2 (some 14) ((.int .i64 2)) rfl rfl (by kernel_rfl) (by kernel_rfl) (by kernel_rfl) (fun _ _ _ h => h) (by rfl) (by (intro _w _hSw; (try dsimp only at _hSw); go_simp)) (by assumption) ?_
      simp only [Act.put, List.setIfInBounds_toArray, List.set_cons_zero, List.set_cons_succ]
      refine takeV 3 (some 15) ((.int .i64 2)) rfl rfl (by kernel_rfl) (by kernel_rfl) (by kernel_rfl) (fun _ _ _ h => h) (by rfl) (by (intro _w _hSw; (try dsimp only at _hSw); go_simp)) (by assumption) ?_
      simp only [Act.put, List.setIfInBounds_toArray, List.set_cons_zero, List.set_cons_succ]
      refine takeV 4 (some 16) ((.int .i64 3)) rfl rfl (by kernel_rfl) (by kernel_rfl) (by kernel_rfl) (fun _ _ _ h => h) (by rfl) (by (intro _w _hSw; (try dsimp only at _hSw); go_simp)) (by assumption) ?_
      simp only [Act.put, List.setIfInBounds_toArray, List.set_cons_zero, List.set_cons_succ]
      refine takeV 5 (some 17) ((.string ⟨#[98]⟩)) rfl rfl (by kernel_rfl) (by kernel_rfl) (by kernel_rfl) (fun _ _ _ h => h) (by rfl) (by (intro _w _hSw; (try dsimp only at _hSw); go_simp)) (by assumption) ?_
      simp only [Act.put, List.setIfInBounds_toArray, List.set_cons_zero, List.set_cons_succ]
      refine takeV 7 (some 19) ((.string ⟨#[100, 97, 98]⟩)) rfl rfl (by kernel_rfl) (by kernel_rfl) (by kernel_rfl) (fun _ _ _ h => h) (by rfl) (by (intro _w _hSw; (try dsimp only at _hSw); go_simp)) (by assumption) ?_
      simp only [Act.put, List.setIfInBounds_toArray, List.set_cons_zero, List.set_cons_succ]
      refine takeV 8 (some 20) ((.int .i64 2)) rfl rfl (by kernel_rfl) (by kernel_rfl) (by kernel_rfl) (fun _ _ _ h => h) (by rfl) (by (intro _w _hSw; (try dsimp only at _hSw); go_simp)) (by assumption) ?_
      simp only [Act.put, List.setIfInBounds_toArray, List.set_cons_zero, List.set_cons_succ]
      refine takeV 9 (some 21) ((.int .u8 98)) rfl rfl (by kernel_rfl) (by kernel_rfl) (by kernel_rfl) (fun _ _ _ h => h) (by rfl) (by (intro _w _hSw; (try dsimp only at _hSw); go_simp)) (by assumption) ?_
      simp only [Act.put, List.setIfInBounds_toArray, List.set_cons_zero, List.set_cons_succ]
      refine takeV 10 (some 22) ((.int .u8 1)) rfl rfl (by kernel_rfl) (by kernel_rfl) (by kernel_rfl) (fun _ _ _ h => h) (by rfl) (by (intro _w _hSw; (try dsimp only at _hSw); go_simp)) (by assumption) ?_
      simp only [Act.put, List.setIfInBounds_toArray, List.set_cons_zero, List.set_cons_succ]
      refine takeV 11 (some 23) ((.int .u8 50)) rfl rfl (by kernel_rfl) (by kernel_rfl) (by kernel_rfl) (fun _ _ _ h => h) (by rfl) (by (intro _w _hSw; (try dsimp only at _hSw); go_simp)) (by assumption) ?_
      simp only [Act.put, List.setIfInBounds_toArray, List.set_cons_zero, List.set_cons_succ]
      refine callW2 6 12 rfl rfl (by kernel_rfl) (by rfl) (by rfl) (fun K hK => ?_) (fun K hK => ?_)
      ·
        obtain ⟨cc, w5, hcv, hbw5, hsw5⟩ := convSB we ⟨#[98]⟩
        go_simp
        have HBw5 := Lib.hid hbw5
        have HSw5 : Hid (SlB w5 w5.heap.size (some ⟨we.heap.size, 0, none⟩) [98]) := hsw5
        refine hK.out _ _ (below_more hHeld hbw5 hHeld.size) (fun hHeld2 => ?_)
        clear hK K hHeld hcv hbw5 hsw5
        have hHeld := hHeld2
        clear hHeld2
        try simp only [Act.put, List.setIfInBounds_toArray, List.set_cons_zero, List.set_cons_succ]
        refine callV 12 rfl (by kernel_rfl) (by rfl) (fun K hK => ?_)
        go_simp
        obtain ⟨w6, hw6⟩ : ∃ X, w5.alloc (.cells #[.int .u8 50] 5) = X := ⟨_, rfl⟩
        have hbw6 : Below w5.heap.size w5 w6 := by rw [← hw6]; exact (Below.refl _ _).alloc (Nat.le_refl _) _
        have HBw6 := Lib.hid hbw6
        have HSw6 : Hid (SlB w6 w6.heap.size (some ⟨w5.heap.size, 0, none⟩) [50]) := by show SlB _ _ _ _; rw [← hw6]; exact lit_at w5 50 _ rfl
        rw [hw6]
        refine hK.out _ _ (below_more hHeld hbw6 hHeld.size) (fun hHeld2 => ?_)
        clear hK K hHeld hw6 hbw6
        have hHeld := hHeld2
        clear hHeld2
        try simp only [Act.put, List.setIfInBounds_toArray, List.set_cons_zero, List.set_cons_succ]
        refine callV 13 rfl (by kernel_rfl) (by rfl) (fun K hK => ?_)
        go_simp
        refine (HPT.out (some ⟨we.heap.size, 0, none⟩) (some ⟨w5.heap.size, 0, none⟩) cc 1 w6 hHeld (slB_up HSw5.out HBw6.out) HSw6.out).mono ?_
        rintro e w9 ⟨v9, rfl, ⟨b9, rfl⟩, ht9, hb9⟩
        have HT9 : Hid (TreeV w9 (.pointer (some ⟨b9, 0, none⟩)) [([97], [49]), ([98], [50]), ([100], [52])]) := ht9
        have HB9 := Lib.hid (HB.out.trans ((hHeld.trans (hb9.mono hHeld.size)).mono HB.out.size))
        refine hK.out _ _ (below_more hHeld hb9 hHeld.size) (fun hHeld2 => ?_)
        clear hK K hHeld ht9 hb9
        have hHeld := hHeld2
        clear hHeld2
        try simp only [Act.put, List.setIfInBounds_toArray, List.set_cons_zero, List.set_cons_succ]
        refine takeV 14 (some 11) ((.tuple #[.pointer (some ⟨b9, 0, none⟩), .int .i64 0])) rfl rfl (by kernel_rfl) (by kernel_rfl) (by kernel_rfl) (fun _ _ _ h => h) (by rfl) (by (intro _w _hSw; (try dsimp only at _hSw); go_simp)) (by assumption) ?_
        simp only [Act.put, List.setIfInBounds_toArray, List.set_cons_zero, List.set_cons_succ]
        refine takeV 15 (some 26) ((.pointer (some ⟨b9, 0, none⟩))) rfl rfl (by kernel_rfl) (by kernel_rfl) (by kernel_rfl) (fun _ _ _ h => h) (by rfl) (by (intro _w _hSw; (try dsimp only at _hSw); go_simp)) (by assumption) ?_
        simp only [Act.put, List.setIfInBounds_toArray, List.set_cons_zero, List.set_cons_succ]
        refine takeV 16 (some 27) ((.int .i64 0)) rfl rfl (by kernel_rfl) (by kernel_rfl) (by kernel_rfl) (fun _ _ _ h => h) (by rfl) (by (intro _w _hSw; (try dsimp only at _hSw); go_simp)) (by assumption) ?_
        simp only [Act.put, List.setIfInBounds_toArray, List.set_cons_zero, List.set_cons_succ]
        refine takeV 17 (some 3) ((.pointer (some ⟨b9, 0, none⟩))) rfl rfl (by kernel_rfl) (by kernel_rfl) (by kernel_rfl) (fun _ _ _ h => h) (by rfl) (by (intro _w _hSw; (try dsimp only at _hSw); go_simp)) (by assumption) ?_
        simp only [Act.put, List.setIfInBounds_toArray, List.set_cons_zero, List.set_cons_succ]
        refine wpAnyH_done (by kernel_rfl) ?_ _
        go_wp2
        go_roundg g
        case measure => omega
        case rel => exact ⟨3, some ⟨b9, 0, none⟩, by go_num, rfl, by omega, HT9.out, HB9.out⟩
      ·
        go_simp
        obtain ⟨w5, hw5⟩ : ∃ X, we.alloc (.cells #[.int .u8 50] 5) = X := ⟨_, rfl⟩
        have hbw5 : Below we.heap.size we w5 := by rw [← hw5]; exact (Below.refl _ _).alloc (Nat.le_refl _) _
        have HBw5 := Lib.hid hbw5
        have HSw5 : Hid (SlB w5 w5.heap.size (some ⟨we.heap.size, 0, none⟩) [50]) := by show SlB _ _ _ _; rw [← hw5]; exact lit_at we 50 _ rfl
        rw [hw5]
        refine hK.out _ _ (below_more hHeld hbw5 hHeld.size) (fun hHeld2 => ?_)
        clear hK K hHeld hw5 hbw5
        have hHeld := hHeld2
        clear hHeld2
        try simp only [Act.put, List.setIfInBounds_toArray, List.set_cons_zero, List.set_cons_succ]
        refine callV 6 rfl (by kernel_rfl) (by rfl) (fun K hK => ?_)
        obtain ⟨cc, w6, hcv, hbw6, hsw6⟩ := convSB w5 ⟨#[98]⟩
        go_simp
        have HBw6 := Lib.hid hbw6
        have HSw6 : Hid (SlB w6 w6.heap.size (some ⟨w5.heap.size, 0, none⟩) [98]) := hsw6
        refine hK.out _ _ (below_more hHeld hbw6 hHeld.size) (fun hHeld2 => ?_)
        clear hK K hHeld hcv hbw6 hsw6
        have hHeld := hHeld2
        clear hHeld2
        try simp only [Act.put, List.setIfInBounds_toArray, List.set_cons_zero, List.set_cons_succ]
        refine callV 13 rfl (by kernel_rfl) (by rfl) (fun K hK => ?_)
        go_simp
        refine (HPT.out (some ⟨w5.heap.size, 0, none⟩) (some ⟨we.heap.size, 0, none⟩) cc 1 w6 hHeld HSw6.out (slB_up HSw5.out HBw6.out)).mono ?_
        rintro e w9 ⟨v9, rfl, ⟨b9, rfl⟩, ht9, hb9⟩
        have HT9 : Hid (TreeV w9 (.pointer (some ⟨b9, 0, none⟩)) [([97], [49]), ([98], [50]), ([100], [52])]) := ht9
        have HB9 := Lib.hid (HB.out.trans ((hHeld.trans (hb9.mono hHeld.size)).mono HB.out.size))
        refine hK.out _ _ (below_more hHeld hb9 hHeld.size) (fun hHeld2 => ?_)
        clear hK K hHeld ht9 hb9
        have hHeld := hHeld2
        clear hHeld2
        try simp only [Act.put, List.setIfInBounds_toArray, List.set_cons_zero, List.set_cons_succ]
        refine takeV 14 (some 11) ((.tuple #[.pointer (some ⟨b9, 0, none⟩), .int .i64 0])) rfl rfl (by kernel_rfl) (by kernel_rfl) (by kernel_rfl) (fun _ _ _ h => h) (by rfl) (by (intro _w _hSw; (try dsimp only at _hSw); go_simp)) (by assumption) ?_
        simp only [Act.put, List.setIfInBounds_toArray, List.set_cons_zero, List.set_cons_succ]
        refine takeV 15 (some 26) ((.pointer (some ⟨b9, 0, none⟩))) rfl rfl (by kernel_rfl) (by kernel_rfl) (by kernel_rfl) (fun _ _ _ h => h) (by rfl) (by (intro _w _hSw; (try dsimp only at _hSw); go_simp)) (by assumption) ?_
        simp only [Act.put, List.setIfInBounds_toArray, List.set_cons_zero, List.set_cons_succ]
        refine takeV 16 (some 27) ((.int .i64 0)) rfl rfl (by kernel_rfl) (by kernel_rfl) (by kernel_rfl) (fun _ _ _ h => h) (by rfl) (by (intro _w _hSw; (try dsimp only at _hSw); go_simp)) (by assumption) ?_
        simp only [Act.put, List.setIfInBounds_toArray, List.set_cons_zero, List.set_cons_succ]
        refine takeV 17 (some 3) ((.pointer (some ⟨b9, 0, none⟩))) rfl rfl (by kernel_rfl) (by kernel_rfl) (by kernel_rfl) (fun _ _ _ h => h) (by rfl) (by (intro _w _hSw; (try dsimp only at _hSw); go_simp)) (by assumption) ?_
        simp only [Act.put, List.setIfInBounds_toArray, List.set_cons_zero, List.set_cons_succ]
        refine wpAnyH_done (by kernel_rfl) ?_ _
        go_wp2
        go_roundg g
        case measure => omega
        case rel => exact ⟨3, some ⟨b9, 0, none⟩, by go_num, rfl, by omega, HT9.out, HB9.out⟩
theorem lit_mark (w : World) (d : UInt8) (m : Nat × Nat) : SlB (w.alloc (.cells #[.int .u8 d.toNat] 5 m)) (w.alloc (.cells #[.int .u8 d.toNat] 5 m)).heap.size (some ⟨w.heap.size, 0, none⟩) [d] := fun _ => by
  refine ⟨_, rfl, by rw [World.size_alloc]; exact Nat.lt_succ_self _, fun j x hx => ?_⟩
  cases j with
  | zero =>
    have hx2 : d = x := by simpa using hx
    subst hx2
    rw [add0]
    simp only [World.cell?, heap_alloc_new]
    rfl
  | succ j => simp at hx
theorem prV_open {w : World} {B : Nat} {v : Value} {p : Pr} (h : PrV w B v p) : ∃ A c A' c', v = .agg #[.slice A p.1.length c, .slice A' p.2.length c'] ∧ SlB w w.heap.size A p.1 ∧ SlB w w.heap.size A' p.2 := by
  obtain ⟨A, c, A', c', M, e, h1, h2, _⟩ := h
  exact ⟨A, c, A', c', e, (SlB.of_own h1).2, (SlB.of_own h2).2⟩
end Go.Proofs.Ythldmdcjfeekeaa
