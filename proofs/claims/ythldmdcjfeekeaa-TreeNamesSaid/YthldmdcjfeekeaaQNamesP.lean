/-
  CONTRACTS: of at the letters "abd"; what the closed examples ask.
-/
import Derived.Test.YthldmdcjfeekeaaQAliv2
import Derived.Test.YthldmdcjfeekeaaQEqu
import Derived.Test.YthldmdcjfeekeaaQLimL
namespace Go.Proofs.Ythldmdcjfeekeaa
open Go.RowKit

def abdF : List Pr := [([97], [49]), ([98], [50]), ([100], [52])]
def abd9 : List Pr := [([97], [49]), ([98], [57]), ([100], [52])]
def AbdEnd (w : World) (e : Ending) (w' : World) : Prop := ∃ u, e = .returned (.pointer u) ∧ TreeV w' (.pointer u) abdF ∧ Below w.heap.size w w'
def abdL (j : Nat) : List Pr := if j = 0 then [] else if j = 1 then [([97], [49])] else if j = 2 then [([97], [49]), ([98], [50])] else [([97], [49]), ([98], [50]), ([100], [52])]
set_option maxRecDepth 100000 in
set_option maxHeartbeats 4000000 in
theorem ofAbd_any (w : World) :
    Calls Try.prog 21 #[.string ⟨#[97, 98, 100]⟩] w (AbdEnd w) := by
  go_enter Try.func21, Try.ntmps21
  go_wp2
  go_loopg [3, 4] 3 (fun gk t i wr => ∃ (j : Nat) (u : Option Addr), i = .int .i64 j ∧ t = .pointer u ∧ j + gk = 3 ∧ Hid (TreeV wr (.pointer u) (abdL j)) ∧ Hid (Below w.heap.size w wr))
  case atStart => exact ⟨0, none, rfl, rfl, rfl, treeV_nil _, Below.refl _ _⟩
  case round =>
    obtain ⟨j, u, rfl, rfl, hj, HT, HB⟩ := hrel
    cases gk with
    | zero =>
      obtain rfl : j = 3 := by omega
      have HF : Hid (AbdEnd w (.returned (.pointer u)) wr) := ⟨u, rfl, HT.out, HB.out⟩
      go_wp2
      go_ret
      exact HF.out
    | succ g =>
      by_cases j0 : j = 0
      · subst j0
        have hsl : ∀ X, (Instr.slice 9 (.string ⟨#[97, 98, 100]⟩) (some (.int .i64 0)) (some (.int .i64 1)) none).run Try.prog X = .ok (.string ⟨#[97]⟩) X := fun _ => by kernel_rfl
        have hix : ∀ X, (Instr.index 9 (.string ⟨#[97, 98, 100]⟩) (.int .i64 0)).run Try.prog X = .ok (.int .u8 97) X := fun _ => by kernel_rfl
        have hwa : IntKind.i64.wrap 1 = 1 := by decide
        have hwb : IntKind.u8.wrap 0 = 0 := by decide
        have hwc : IntKind.u8.wrap 49 = 49 := by decide
        have HPT := Lib.hid (fun A1 A2 c1 c2 X (hX : Below wr.heap.size wr X) (h1 : SlB X X.heap.size A1 [97]) (h2 : SlB X X.heap.size A2 [49]) => putM_any (L := ([] : List Pr)) A1 A2 c1 c2 [97] [49] X (HT.out.next hX) h1 h2 (by decide) (by decide) (by decide))
        have HTT := HT
        clear HT
        go_wp2_with fail
        have HS0 := Lib.hid (qb_dn (Below.refl wr.heap.size wr) 1)
        obtain ⟨we, hwe⟩ : ∃ X, wr.drew = X := ⟨_, rfl⟩
        refine wp_region_held_drew (S := fun X => Below wr.heap.size wr X) (by kernel_rfl) HS0.out (fun hHeld => ?_)
        rw [hwe] at hHeld ⊢
        clear hwe HS0
        refine takeV 0 (some 12) ((.pointer u)) rfl rfl (by kernel_rfl) (by kernel_rfl) (by kernel_rfl) (fun _ _ _ h => h) (by rfl) (by (intro _w _hSw; (try dsimp only at _hSw); go_simp)) (by assumption) ?_
        simp only [Act.put, List.setIfInBounds_toArray, List.set_cons_zero, List.set_cons_succ]
        refine takeV 1 (some 13) ((.string ⟨#[97, 98, 100]⟩)) rfl rfl (by kernel_rfl) (by kernel_rfl) (by kernel_rfl) (fun _ _ _ h => h) (by rfl) (by (intro _w _hSw; (try dsimp only at _hSw); go_simp)) (by assumption) ?_
        simp only [Act.put, List.setIfInBounds_toArray, List.set_cons_zero, List.set_cons_succ]
        refine takeV 2 (some 14) ((.int .i64 0)) rfl rfl (by kernel_rfl) (by kernel_rfl) (by kernel_rfl) (fun _ _ _ h => h) (by rfl) (by (intro _w _hSw; (try dsimp only at _hSw); go_simp)) (by assumption) ?_
        simp only [Act.put, List.setIfInBounds_toArray, List.set_cons_zero, List.set_cons_succ]
        refine takeV 3 (some 15) ((.int .i64 0)) rfl rfl (by kernel_rfl) (by kernel_rfl) (by kernel_rfl) (fun _ _ _ h => h) (by rfl) (by (intro _w _hSw; (try dsimp only at _hSw); go_simp)) (by assumption) ?_
        simp only [Act.put, List.setIfInBounds_toArray, List.set_cons_zero, List.set_cons_succ]
        refine takeV 4 (some 16) ((.int .i64 1)) rfl rfl (by kernel_rfl) (by kernel_rfl) (by kernel_rfl) (fun _ _ _ h => h) (by rfl) (by (intro _w _hSw; (try dsimp only at _hSw); go_simp)) (by assumption) ?_
        simp only [Act.put, List.setIfInBounds_toArray, List.set_cons_zero, List.set_cons_succ]
        refine takeV 5 (some 17) ((.string ⟨#[97]⟩)) rfl rfl (by kernel_rfl) (by kernel_rfl) (by kernel_rfl) (fun _ _ _ h => h) (by rfl) (by (intro _w _hSw; (try dsimp only at _hSw); go_simp)) (by assumption) ?_
        simp only [Act.put, List.setIfInBounds_toArray, List.set_cons_zero, List.set_cons_succ]
        refine takeV 7 (some 19) ((.string ⟨#[97, 98, 100]⟩)) rfl rfl (by kernel_rfl) (by kernel_rfl) (by kernel_rfl) (fun _ _ _ h => h) (by rfl) (by (intro _w _hSw; (try dsimp only at _hSw); go_simp)) (by assumption) ?_
        simp only [Act.put, List.setIfInBounds_toArray, List.set_cons_zero, List.set_cons_succ]
        refine takeV 8 (some 20) ((.int .i64 0)) rfl rfl (by kernel_rfl) (by kernel_rfl) (by kernel_rfl) (fun _ _ _ h => h) (by rfl) (by (intro _w _hSw; (try dsimp only at _hSw); go_simp)) (by assumption) ?_
        simp only [Act.put, List.setIfInBounds_toArray, List.set_cons_zero, List.set_cons_succ]
        refine takeV 9 (some 21) ((.int .u8 97)) rfl rfl (by kernel_rfl) (by kernel_rfl) (by kernel_rfl) (fun _ _ _ h => h) (by rfl) (by (intro _w _hSw; (try dsimp only at _hSw); go_simp)) (by assumption) ?_
        simp only [Act.put, List.setIfInBounds_toArray, List.set_cons_zero, List.set_cons_succ]
        refine takeV 10 (some 22) ((.int .u8 0)) rfl rfl (by kernel_rfl) (by kernel_rfl) (by kernel_rfl) (fun _ _ _ h => h) (by rfl) (by (intro _w _hSw; (try dsimp only at _hSw); go_simp)) (by assumption) ?_
        simp only [Act.put, List.setIfInBounds_toArray, List.set_cons_zero, List.set_cons_succ]
        refine takeV 11 (some 23) ((.int .u8 49)) rfl rfl (by kernel_rfl) (by kernel_rfl) (by kernel_rfl) (fun _ _ _ h => h) (by rfl) (by (intro _w _hSw; (try dsimp only at _hSw); go_simp)) (by assumption) ?_
        simp only [Act.put, List.setIfInBounds_toArray, List.set_cons_zero, List.set_cons_succ]
        refine callW2 6 12 rfl rfl (by kernel_rfl) (by rfl) (by rfl) (fun K hK => ?_) (fun K hK => ?_)
        ·
          obtain ⟨cc, w5, hcv, hbw5, hsw5⟩ := convSB we ⟨#[97]⟩
          go_simp
          have HBw5 := Lib.hid hbw5
          have HSw5 : Hid (SlB w5 w5.heap.size (some ⟨we.heap.size, 0, none⟩) [97]) := hsw5
          refine hK.out _ _ (below_more hHeld hbw5 hHeld.size) (fun hHeld2 => ?_)
          clear hK K hHeld hcv hbw5 hsw5
          have hHeld := hHeld2
          clear hHeld2
          try simp only [Act.put, List.setIfInBounds_toArray, List.set_cons_zero, List.set_cons_succ]
          refine callV 12 rfl (by kernel_rfl) (by rfl) (fun K hK => ?_)
          go_simp
          obtain ⟨w6, hw6⟩ : ∃ X, w5.alloc (.cells #[.int .u8 49] 5) = X := ⟨_, rfl⟩
          have hbw6 : Below w5.heap.size w5 w6 := by rw [← hw6]; exact (Below.refl _ _).alloc (Nat.le_refl _) _
          have HBw6 := Lib.hid hbw6
          have HSw6 : Hid (SlB w6 w6.heap.size (some ⟨w5.heap.size, 0, none⟩) [49]) := by show SlB _ _ _ _; rw [← hw6]; exact lit_at w5 49 _ rfl
          rw [hw6]
          refine hK.out _ _ (below_more hHeld hbw6 hHeld.size) (fun hHeld2 => ?_)
          clear hK K hHeld hw6 hbw6
          have hHeld := hHeld2
          clear hHeld2
          try simp only [Act.put, List.setIfInBounds_toArray, List.set_cons_zero, List.set_cons_succ]
          refine callV 13 rfl (by kernel_rfl) (by rfl) (fun K hK => ?_)
          go_simp
          refine (HPT.out (some ⟨we.heap.size, 0, none⟩) (some ⟨w5.heap.size, 0, none⟩) cc 1 w6 hHeld (slB_up HSw5.out HBw6.out) HSw6.out).mono ?_
          rintro e w9 ⟨v9, rfl, ⟨b9, rfl⟩, ht9, hb9⟩
          have HT9 : Hid (TreeV w9 (.pointer (some ⟨b9, 0, none⟩)) [([97], [49])]) := ht9
          have HB9 := Lib.hid (HB.out.trans ((hHeld.trans (hb9.mono hHeld.size)).mono HB.out.size))
          refine hK.out _ _ (below_more hHeld hb9 hHeld.size) (fun hHeld2 => ?_)
          clear hK K hHeld ht9 hb9
          have hHeld := hHeld2
          clear hHeld2
          try simp only [Act.put, List.setIfInBounds_toArray, List.set_cons_zero, List.set_cons_succ]
          refine takeV 14 (some 11) ((.tuple #[.pointer (some ⟨b9, 0, none⟩), .int .i64 0])) rfl rfl (by kernel_rfl) (by kernel_rfl) (by kernel_rfl) (fun _ _ _ h => h) (by rfl) (by (intro _w _hSw; (try dsimp only at _hSw); go_simp)) (by assumption) ?_
          simp only [Act.put, List.setIfInBounds_toArray, List.set_cons_zero, List.set_cons_succ]
          refine takeV 15 (some 26) ((.pointer (some ⟨b9, 0, none⟩))) rfl rfl (by kernel_rfl) (by kernel_rfl) (by kernel_rfl) (fun _ _ _ h => h) (by rfl) (by (intro _w _hSw; (try dsimp only at _hSw); go_simp)) (by assumption) ?_
          simp only [Act.put, List.setIfInBounds_toArray, List.set_cons_zero, List.set_cons_succ]
          refine takeV 16 (some 27) ((.int .i64 0)) rfl rfl (by kernel_rfl) (by kernel_rfl) (by kernel_rfl) (fun _ _ _ h => h) (by rfl) (by (intro _w _hSw; (try dsimp only at _hSw); go_simp)) (by assumption) ?_
          simp only [Act.put, List.setIfInBounds_toArray, List.set_cons_zero, List.set_cons_succ]
          refine takeV 17 (some 3) ((.pointer (some ⟨b9, 0, none⟩))) rfl rfl (by kernel_rfl) (by kernel_rfl) (by kernel_rfl) (fun _ _ _ h => h) (by rfl) (by (intro _w _hSw; (try dsimp only at _hSw); go_simp)) (by assumption) ?_
          simp only [Act.put, List.setIfInBounds_toArray, List.set_cons_zero, List.set_cons_succ]
          refine wpAnyH_done (by kernel_rfl) ?_ _
          go_wp2
          go_roundg g
          case measure => omega
          case rel => exact ⟨1, some ⟨b9, 0, none⟩, by go_num, rfl, by omega, HT9.out, HB9.out⟩
        ·
          go_simp
          obtain ⟨w5, hw5⟩ : ∃ X, we.alloc (.cells #[.int .u8 49] 5) = X := ⟨_, rfl⟩
          have hbw5 : Below we.heap.size we w5 := by rw [← hw5]; exact (Below.refl _ _).alloc (Nat.le_refl _) _
          have HBw5 := Lib.hid hbw5
          have HSw5 : Hid (SlB w5 w5.heap.size (some ⟨we.heap.size, 0, none⟩) [49]) := by show SlB _ _ _ _; rw [← hw5]; exact lit_at we 49 _ rfl
          rw [hw5]
          refine hK.out _ _ (below_more hHeld hbw5 hHeld.size) (fun hHeld2 => ?_)
          clear hK K hHeld hw5 hbw5
          have hHeld := hHeld2
          clear hHeld2
          try simp only [Act.put, List.setIfInBounds_toArray, List.set_cons_zero, List.set_cons_succ]
          refine callV 6 rfl (by kernel_rfl) (by rfl) (fun K hK => ?_)
          obtain ⟨cc, w6, hcv, hbw6, hsw6⟩ := convSB w5 ⟨#[97]⟩
          go_simp
          have HBw6 := Lib.hid hbw6
          have HSw6 : Hid (SlB w6 w6.heap.size (some ⟨w5.heap.size, 0, none⟩) [97]) := hsw6
          refine hK.out _ _ (below_more hHeld hbw6 hHeld.size) (fun hHeld2 => ?_)
          clear hK K hHeld hcv hbw6 hsw6
          have hHeld := hHeld2
          clear hHeld2
          try simp only [Act.put, List.setIfInBounds_toArray, List.set_cons_zero, List.set_cons_succ]
          refine callV 13 rfl (by kernel_rfl) (by rfl) (fun K hK => ?_)
          go_simp
          refine (HPT.out (some ⟨w5.heap.size, 0, none⟩) (some ⟨we.heap.size, 0, none⟩) cc 1 w6 hHeld HSw6.out (slB_up HSw5.out HBw6.out)).mono ?_
          rintro e w9 ⟨v9, rfl, ⟨b9, rfl⟩, ht9, hb9⟩
          have HT9 : Hid (TreeV w9 (.pointer (some ⟨b9, 0, none⟩)) [([97], [49])]) := ht9
          have HB9 := Lib.hid (HB.out.trans ((hHeld.trans (hb9.mono hHeld.size)).mono HB.out.size))
          refine hK.out _ _ (below_more hHeld hb9 hHeld.size) (fun hHeld2 => ?_)
          clear hK K hHeld ht9 hb9
          have hHeld := hHeld2
          clear hHeld2
          try simp only [Act.put, List.setIfInBounds_toArray, List.set_cons_zero, List.set_cons_succ]
          refine takeV 14 (some 11) ((.tuple #[.pointer (some ⟨b9, 0, none⟩), .int .i64 0])) rfl rfl (by kernel_rfl) (by kernel_rfl) (by kernel_rfl) (fun _ _ _ h => h) (by rfl) (by (intro _w _hSw; (try dsimp only at _hSw); go_simp)) (by assumption) ?_
          simp only [Act.put, List.setIfInBounds_toArray, List.set_cons_zero, List.set_cons_succ]
          refine takeV 15 (some 26) ((.pointer (some ⟨b9, 0, none⟩))) rfl rfl (by kernel_rfl) (by kernel_rfl) (by kernel_rfl) (fun _ _ _ h => h) (by rfl) (by (intro _w _hSw; (try dsimp only at _hSw); go_simp)) (by assumption) ?_
          simp only [Act.put, List.setIfInBounds_toArray, List.set_cons_zero, List.set_cons_succ]
          refine takeV 16 (some 27) ((.int .i64 0)) rfl rfl (by kernel_rfl) (by kernel_rfl) (by kernel_rfl) (fun _ _ _ h => h) (by rfl) (by (intro _w _hSw; (try dsimp only at _hSw); go_simp)) (by assumption) ?_
          simp only [Act.put, List.setIfInBounds_toArray, List.set_cons_zero, List.set_cons_succ]
          refine takeV 17 (some 3) ((.pointer (some ⟨b9, 0, none⟩))) rfl rfl (by kernel_rfl) (by kernel_rfl) (by kernel_rfl) (fun _ _ _ h => h) (by rfl) (by (intro _w _hSw; (try dsimp only at _hSw); go_simp)) (by assumption) ?_
          simp only [Act.put, List.setIfInBounds_toArray, List.set_cons_zero, List.set_cons_succ]
          refine wpAnyH_done (by kernel_rfl) ?_ _
          go_wp2
          go_roundg g
          case measure => omega
          case rel => exact ⟨1, some ⟨b9, 0, none⟩, by go_num, rfl, by omega, HT9.out, HB9.out⟩
      by_cases j1 : j = 1
      · subst j1
        have hsl : ∀ X, (Instr.slice 9 (.string ⟨#[97, 98, 100]⟩) (some (.int .i64 1)) (some (.int .i64 2)) none).run Try.prog X = .ok (.string ⟨#[98]⟩) X := fun _ => by kernel_rfl
        have hix : ∀ X, (Instr.index 9 (.string ⟨#[97, 98, 100]⟩) (.int .i64 1)).run Try.prog X = .ok (.int .u8 98) X := fun _ => by kernel_rfl
        have hwa : IntKind.i64.wrap 2 = 2 := by decide
        have hwb : IntKind.u8.wrap 1 = 1 := by decide
        have hwc : IntKind.u8.wrap 50 = 50 := by decide
        have HPT := Lib.hid (fun A1 A2 c1 c2 X (hX : Below wr.heap.size wr X) (h1 : SlB X X.heap.size A1 [98]) (h2 : SlB X X.heap.size A2 [50]) => putM_any (L := [([97], [49])]) A1 A2 c1 c2 [98] [50] X (HT.out.next hX) h1 h2 (by decide) (by decide) (by decide))
        have HTT := HT
        clear HT
        go_wp2_with fail
        have HS0 := Lib.hid (qb_dn (Below.refl wr.heap.size wr) 1)
        obtain ⟨we, hwe⟩ : ∃ X, wr.drew = X := ⟨_, rfl⟩
        refine wp_region_held_drew (S := fun X => Below wr.heap.size wr X) (by kernel_rfl) HS0.out (fun hHeld => ?_)
        rw [hwe] at hHeld ⊢
        clear hwe HS0
        refine takeV 0 (some 12) ((.pointer u)) rfl rfl (by kernel_rfl) (by kernel_rfl) (by kernel_rfl) (fun _ _ _ h => h) (by rfl) (by (intro _w _hSw; (try dsimp only at _hSw); go_simp)) (by assumption) ?_
        simp only [Act.put, List.setIfInBounds_toArray, List.set_cons_zero, List.set_cons_succ]
        refine takeV 1 (some 13) ((.string ⟨#[97, 98, 100]⟩)) rfl rfl (by kernel_rfl) (by kernel_rfl) (by kernel_rfl) (fun _ _ _ h => h) (by rfl) (by (intro _w _hSw; (try dsimp only at _hSw); go_simp)) (by assumption) ?_
        simp only [Act.put, List.setIfInBounds_toArray, List.set_cons_zero, List.set_cons_succ]
        refine takeV 2 (some 14) ((.int .i64 1)) rfl rfl (by kernel_rfl) (by kernel_rfl) (by kernel_rfl) (fun _ _ _ h => h) (by rfl) (by (intro _w _hSw; (try dsimp only at _hSw); go_simp)) (by assumption) ?_
        simp only [Act.put, List.setIfInBounds_toArray, List.set_cons_zero, List.set_cons_succ]
        refine takeV 3 (some 15) ((.int .i64 1)) rfl rfl (by kernel_rfl) (by kernel_rfl) (by kernel_rfl) (fun _ _ _ h => h) (by rfl) (by (intro _w _hSw; (try dsimp only at _hSw); go_simp)) (by assumption) ?_
        simp only [Act.put, List.setIfInBounds_toArray, List.set_cons_zero, List.set_cons_succ]
        refine takeV 4 (some 16) ((.int .i64 2)) rfl rfl (by kernel_rfl) (by kernel_rfl) (by kernel_rfl) (fun _ _ _ h => h) (by rfl) (by (intro _w _hSw; (try dsimp only at _hSw); go_simp)) (by assumption) ?_
        simp only [Act.put, List.setIfInBounds_toArray, List.set_cons_zero, List.set_cons_succ]
        refine takeV 5 (some 17) ((.string ⟨#[98]⟩)) rfl rfl (by kernel_rfl) (by kernel_rfl) (by kernel_rfl) (fun _ _ _ h => h) (by rfl) (by (intro _w _hSw; (try dsimp only at _hSw); go_simp)) (by assumption) ?_
        simp only [Act.put, List.setIfInBounds_toArray, List.set_cons_zero, List.set_cons_succ]
        refine takeV 7 (some 19) ((.string ⟨#[97, 98, 100]⟩)) rfl rfl (by kernel_rfl) (by kernel_rfl) (by kernel_rfl) (fun _ _ _ h => h) (by rfl) (by (intro _w _hSw; (try dsimp only at _hSw); go_simp)) (by assumption) ?_
        simp only [Act.put, List.setIfInBounds_toArray, List.set_cons_zero, List.set_cons_succ]
        refine takeV 8 (some 20) ((.int .i64 1)) rfl rfl (by kernel_rfl) (by kernel_rfl) (by kernel_rfl) (fun _ _ _ h => h) (by rfl) (by (intro _w _hSw; (try dsimp only at _hSw); go_simp)) (by assumption) ?_
        simp only [Act.put, List.setIfInBounds_toArray, List.set_cons_zero, List.set_cons_succ]
        refine takeV 9 (some 21) ((.int .u8 98)) rfl rfl (by kernel_rfl) (by kernel_rfl) (by kernel_rfl) (fun _ _ _ h => h) (by rfl) (by (intro _w _hSw; (try dsimp only at _hSw); go_simp)) (by assumption) ?_
        simp only [Act.put, List.setIfInBounds_toArray, List.set_cons_zero, List.set_cons_succ]
        refine takeV 10 (some 22) ((.int .u8 1)) rfl rfl (by kernel_rfl) (by kernel_rfl) (by kernel_rfl) (fun _ _ _ h => h) (by rfl) (by (intro _w _hSw; (try dsimp only at _hSw); go_simp)) (by assumption) ?_
        simp only [Act.put, List.setIfInBounds_toArray, List.set_cons_zero, List.set_cons_succ]
        refine takeV 11 (some 23) ((.int .u8 50)) rfl rfl (by kernel_rfl) (by kernel_rfl) (by kernel_rfl) (fun _ _ _ h => h) (by rfl) (by (intro _w _hSw; (try dsimp only at _hSw); go_simp)) (by assumption) ?_
        simp only [Act.put, List.setIfInBounds_toArray, List.set_cons_zero, List.set_cons_succ]
        refine callW2 6 12 rfl rfl (by kernel_rfl) (by rfl) (by rfl) (fun K hK => ?_) (fun K hK => ?_)
        ·
          obtain ⟨cc, w5, hcv, hbw5, hsw5⟩ := convSB we ⟨#[98]⟩
          go_simp
          have HBw5 := Lib.hid hbw5
          have HSw5 : Hid (SlB w5 w5.heap.size (some ⟨we.heap.size, 0, none⟩) [98]) := hsw5
          refine hK.out _ _ (below_more hHeld hbw5 hHeld.size) (fun hHeld2 => ?_)
          clear hK K hHeld hcv hbw5 hsw5
          have hHeld := hHeld2
          clear hHeld2
          try simp only [Act.put, List.setIfInBounds_toArray, List.set_cons_zero, List.set_cons_succ]
          refine callV 12 rfl (by kernel_rfl) (by rfl) (fun K hK => ?_)
          go_simp
          obtain ⟨w6, hw6⟩ : ∃ X, w5.alloc (.cells #[.int .u8 50] 5) = X := ⟨_, rfl⟩
          have hbw6 : Below w5.heap.size w5 w6 := by rw [← hw6]; exact (Below.refl _ _).alloc (Nat.le_refl _) _
          have HBw6 := Lib.hid hbw6
          have HSw6 : Hid (SlB w6 w6.heap.size (some ⟨w5.heap.size, 0, none⟩) [50]) := by show SlB _ _ _ _; rw [← hw6]; exact lit_at w5 50 _ rfl
          rw [hw6]
          refine hK.out _ _ (below_more hHeld hbw6 hHeld.size) (fun hHeld2 => ?_)
          clear hK K hHeld hw6 hbw6
          have hHeld := hHeld2
          clear hHeld2
          try simp only [Act.put, List.setIfInBounds_toArray, List.set_cons_zero, List.set_cons_succ]
          refine callV 13 rfl (by kernel_rfl) (by rfl) (fun K hK => ?_)
          go_simp
          refine (HPT.out (some ⟨we.heap.size, 0, none⟩) (some ⟨w5.heap.size, 0, none⟩) cc 1 w6 hHeld (slB_up HSw5.out HBw6.out) HSw6.out).mono ?_
          rintro e w9 ⟨v9, rfl, ⟨b9, rfl⟩, ht9, hb9⟩
          have HT9 : Hid (TreeV w9 (.pointer (some ⟨b9, 0, none⟩)) [([97], [49]), ([98], [50])]) := ht9
          have HB9 := Lib.hid (HB.out.trans ((hHeld.trans (hb9.mono hHeld.size)).mono HB.out.size))
          refine hK.out _ _ (below_more hHeld hb9 hHeld.size) (fun hHeld2 => ?_)
          clear hK K hHeld ht9 hb9
          have hHeld := hHeld2
          clear hHeld2
          try simp only [Act.put, List.setIfInBounds_toArray, List.set_cons_zero, List.set_cons_succ]
          refine takeV 14 (some 11) ((.tuple #[.pointer (some ⟨b9, 0, none⟩), .int .i64 0])) rfl rfl (by kernel_rfl) (by kernel_rfl) (by kernel_rfl) (fun _ _ _ h => h) (by rfl) (by (intro _w _hSw; (try dsimp only at _hSw); go_simp)) (by assumption) ?_
          simp only [Act.put, List.setIfInBounds_toArray, List.set_cons_zero, List.set_cons_succ]
          refine takeV 15 (some 26) ((.pointer (some ⟨b9, 0, none⟩))) rfl rfl (by kernel_rfl) (by kernel_rfl) (by kernel_rfl) (fun _ _ _ h => h) (by rfl) (by (intro _w _hSw; (try dsimp only at _hSw); go_simp)) (by assumption) ?_
          simp only [Act.put, List.setIfInBounds_toArray, List.set_cons_zero, List.set_cons_succ]
          refine takeV 16 (some 27) ((.int .i64 0)) rfl rfl (by kernel_rfl) (by kernel_rfl) (by kernel_rfl) (fun _ _ _ h => h) (by rfl) (by (intro _w _hSw; (try dsimp only at _hSw); go_simp)) (by assumption) ?_
          simp only [Act.put, List.setIfInBounds_toArray, List.set_cons_zero, List.set_cons_succ]
          refine takeV 17 (some 3) ((.pointer (some ⟨b9, 0, none⟩))) rfl rfl (by kernel_rfl) (by kernel_rfl) (by kernel_rfl) (fun _ _ _ h => h) (by rfl) (by (intro _w _hSw; (try dsimp only at _hSw); go_simp)) (by assumption) ?_
          simp only [Act.put, List.setIfInBounds_toArray, List.set_cons_zero, List.set_cons_succ]
          refine wpAnyH_done (by kernel_rfl) ?_ _
          go_wp2
          go_roundg g
          case measure => omega
          case rel => exact ⟨2, some ⟨b9, 0, none⟩, by go_num, rfl, by omega, HT9.out, HB9.out⟩
        ·
          go_simp
          obtain ⟨w5, hw5⟩ : ∃ X, we.alloc (.cells #[.int .u8 50] 5) = X := ⟨_, rfl⟩
          have hbw5 : Below we.heap.size we w5 := by rw [← hw5]; exact (Below.refl _ _).alloc (Nat.le_refl _) _
          have HBw5 := Lib.hid hbw5
          have HSw5 : Hid (SlB w5 w5.heap.size (some ⟨we.heap.size, 0, none⟩) [50]) := by show SlB _ _ _ _; rw [← hw5]; exact lit_at we 50 _ rfl
          rw [hw5]
          refine hK.out _ _ (below_more hHeld hbw5 hHeld.size) (fun hHeld2 => ?_)
          clear hK K hHeld hw5 hbw5
          have hHeld := hHeld2
          clear hHeld2
          try simp only [Act.put, List.setIfInBounds_toArray, List.set_cons_zero, List.set_cons_succ]
          refine callV 6 rfl (by kernel_rfl) (by rfl) (fun K hK => ?_)
          obtain ⟨cc, w6, hcv, hbw6, hsw6⟩ := convSB w5 ⟨#[98]⟩
          go_simp
          have HBw6 := Lib.hid hbw6
          have HSw6 : Hid (SlB w6 w6.heap.size (some ⟨w5.heap.size, 0, none⟩) [98]) := hsw6
          refine hK.out _ _ (below_more hHeld hbw6 hHeld.size) (fun hHeld2 => ?_)
          clear hK K hHeld hcv hbw6 hsw6
          have hHeld := hHeld2
          clear hHeld2
          try simp only [Act.put, List.setIfInBounds_toArray, List.set_cons_zero, List.set_cons_succ]
          refine callV 13 rfl (by kernel_rfl) (by rfl) (fun K hK => ?_)
          go_simp
          refine (HPT.out (some ⟨w5.heap.size, 0, none⟩) (some ⟨we.heap.size, 0, none⟩) cc 1 w6 hHeld HSw6.out (slB_up HSw5.out HBw6.out)).mono ?_
          rintro e w9 ⟨v9, rfl, ⟨b9, rfl⟩, ht9, hb9⟩
          have HT9 : Hid (TreeV w9 (.pointer (some ⟨b9, 0, none⟩)) [([97], [49]), ([98], [50])]) := ht9
          have HB9 := Lib.hid (HB.out.trans ((hHeld.trans (hb9.mono hHeld.size)).mono HB.out.size))
          refine hK.out _ _ (below_more hHeld hb9 hHeld.size) (fun hHeld2 => ?_)
          clear hK K hHeld ht9 hb9
          have hHeld := hHeld2
          clear hHeld2
          try simp only [Act.put, List.setIfInBounds_toArray, List.set_cons_zero, List.set_cons_succ]
          refine takeV 14 (some 11) ((.tuple #[.pointer (some ⟨b9, 0, none⟩), .int .i64 0])) rfl rfl (by kernel_rfl) (by kernel_rfl) (by kernel_rfl) (fun _ _ _ h => h) (by rfl) (by (intro _w _hSw; (try dsimp only at _hSw); go_simp)) (by assumption) ?_
          simp only [Act.put, List.setIfInBounds_toArray, List.set_cons_zero, List.set_cons_succ]
          refine takeV 15 (some 26) ((.pointer (some ⟨b9, 0, none⟩))) rfl rfl (by kernel_rfl) (by kernel_rfl) (by kernel_rfl) (fun _ _ _ h => h) (by rfl) (by (intro _w _hSw; (try dsimp only at _hSw); go_simp)) (by assumption) ?_
          simp only [Act.put, List.setIfInBounds_toArray, List.set_cons_zero, List.set_cons_succ]
          refine takeV 16 (some 27) ((.int .i64 0)) rfl rfl (by kernel_rfl) (by kernel_rfl) (by kernel_rfl) (fun _ _ _ h => h) (by rfl) (by (intro _w _hSw; (try dsimp only at _hSw); go_simp)) (by assumption) ?_
          simp only [Act.put, List.setIfInBounds_toArray, List.set_cons_zero, List.set_cons_succ]
          refine takeV 17 (some 3) ((.pointer (some ⟨b9, 0, none⟩))) rfl rfl (by kernel_rfl) (by kernel_rfl) (by kernel_rfl) (fun _ _ _ h => h) (by rfl) (by (intro _w _hSw; (try dsimp only at _hSw); go_simp)) (by assumption) ?_
          simp only [Act.put, List.setIfInBounds_toArray, List.set_cons_zero, List.set_cons_succ]
          refine wpAnyH_done (by kernel_rfl) ?_ _
          go_wp2
          go_roundg g
          case measure => omega
          case rel => exact ⟨2, some ⟨b9, 0, none⟩, by go_num, rfl, by omega, HT9.out, HB9.out⟩
      obtain rfl : j = 2 := by omega
      have hsl : ∀ X, (Instr.slice 9 (.string ⟨#[97, 98, 100]⟩) (some (.int .i64 2)) (some (.int .i64 3)) none).run Try.prog X = .ok (.string ⟨#[100]⟩) X := fun _ => by kernel_rfl
      have hix : ∀ X, (Instr.index 9 (.string ⟨#[97, 98, 100]⟩) (.int .i64 2)).run Try.prog X = .ok (.int .u8 100) X := fun _ => by kernel_rfl
      have hwa : IntKind.i64.wrap 3 = 3 := by decide
      have hwb : IntKind.u8.wrap 3 = 3 := by decide
      have hwc : IntKind.u8.wrap 52 = 52 := by decide
      have HPT := Lib.hid (fun A1 A2 c1 c2 X (hX : Below wr.heap.size wr X) (h1 : SlB X X.heap.size A1 [100]) (h2 : SlB X X.heap.size A2 [52]) => putM_any (L := [([97], [49]), ([98], [50])]) A1 A2 c1 c2 [100] [52] X (HT.out.next hX) h1 h2 (by decide) (by decide) (by decide))
      have HTT := HT
      clear HT
      go_wp2_with fail
      have HS0 := Lib.hid (qb_dn (Below.refl wr.heap.size wr) 1)
      obtain ⟨we, hwe⟩ : ∃ X, wr.drew = X := ⟨_, rfl⟩
      refine wp_region_held_drew (S := fun X => Below wr.heap.size wr X) (by kernel_rfl) HS0.out (fun hHeld => ?_)
      rw [hwe] at hHeld ⊢
      clear hwe HS0
      refine takeV 0 (some 12) ((.pointer u)) rfl rfl (by kernel_rfl) (by kernel_rfl) (by kernel_rfl) (fun _ _ _ h => h) (by rfl) (by (intro _w _hSw; (try dsimp only at _hSw); go_simp)) (by assumption) ?_
      simp only [Act.put, List.setIfInBounds_toArray, List.set_cons_zero, List.set_cons_succ]
      refine takeV 1 (some 13) ((.string ⟨#[97, 98, 100]⟩)) rfl rfl (by kernel_rfl) (by kernel_rfl) (by kernel_rfl) (fun _ _ _ h => h) (by rfl) (by (intro _w _hSw; (try dsimp only at _hSw); go_simp)) (by assumption) ?_
      simp only [Act.put, List.setIfInBounds_toArray, List.set_cons_zero, List.set_cons_succ]
      refine takeV 2 (some 14) ((.int .i64 2)) rfl rfl (by kernel_rfl) (by kernel_rfl) (by kernel_rfl) (fun _ _ _ h => h) (by rfl) (by (intro _w _hSw; (try dsimp only at _hSw); go_simp)) (by assumption) ?_
      simp only [Act.put, List.setIfInBounds_toArray, List.set_cons_zero, List.set_cons_succ]
      refine takeV 3 (some 15) ((.int .i64 2)) rfl rfl (by kernel_rfl) (by kernel_rfl) (by kernel_rfl) (fun _ _ _ h => h) (by rfl) (by (intro _w _hSw; (try dsimp only at _hSw); go_simp)) (by assumption) ?_
      simp only [Act.put, List.setIfInBounds_toArray, List.set_cons_zero, List.set_cons_succ]
      refine takeV 4 (some 16) ((.int .i64 3)) rfl rfl (by kernel_rfl) (by kernel_rfl) (by kernel_rfl) (fun _ _ _ h => h) (by rfl) (by (intro _w _hSw; (try dsimp only at _hSw); go_simp)) (by assumption) ?_
      simp only [Act.put, List.setIfInBounds_toArray, List.set_cons_zero, List.set_cons_succ]
      refine takeV 5 (some 17) ((.string ⟨#[100]⟩)) rfl rfl (by kernel_rfl) (by kernel_rfl) (by kernel_rfl) (fun _ _ _ h => h) (by rfl) (by (intro _w _hSw; (try dsimp only at _hSw); go_simp)) (by assumption) ?_
      simp only [Act.put, List.setIfInBounds_toArray, List.set_cons_zero, List.set_cons_succ]
      refine takeV 7 (some 19) ((.string ⟨#[97, 98, 100]⟩)) rfl rfl (by kernel_rfl) (by kernel_rfl) (by kernel_rfl) (fun _ _ _ h => h) (by rfl) (by (intro _w _hSw; (try dsimp only at _hSw); go_simp)) (by assumption) ?_
      simp only [Act.put, List.setIfInBounds_toArray, List.set_cons_zero, List.set_cons_succ]
      refine takeV 8 (some 20) ((.int .i64 2)) rfl rfl (by kernel_rfl) (by kernel_rfl) (by kernel_rfl) (fun _ _ _ h => h) (by rfl) (by (intro _w _hSw; (try dsimp only at _hSw); go_simp)) (by assumption) ?_
      simp only [Act.put, List.setIfInBounds_toArray, List.set_cons_zero, List.set_cons_succ]
      refine takeV 9 (some 21) ((.int .u8 100)) rfl rfl (by kernel_rfl) (by kernel_rfl) (by kernel_rfl) (fun _ _ _ h => h) (by rfl) (by (intro _w _hSw; (try dsimp only at _hSw); go_simp)) (by assumption) ?_
      simp only [Act.put, List.setIfInBounds_toArray, List.set_cons_zero, List.set_cons_succ]
      refine takeV 10 (some 22) ((.int .u8 3)) rfl rfl (by kernel_rfl) (by kernel_rfl) (by kernel_rfl) (fun _ _ _ h => h) (by rfl) (by (intro _w _hSw; (try dsimp only at _hSw); go_simp)) (by assumption) ?_
      simp only [Act.put, List.setIfInBounds_toArray, List.set_cons_zero, List.set_cons_succ]
      refine takeV 11 (some 23) ((.int .u8 52)) rfl rfl (by kernel_rfl) (by kernel_rfl) (by kernel_rfl) (fun _ _ _ h => h) (by rfl) (by (intro _w _hSw; (try dsimp only at _hSw); go_simp)) (by assumption) ?_
      simp only [Act.put, List.setIfInBounds_toArray, List.set_cons_zero, List.set_cons_succ]
      refine callW2 6 12 rfl rfl (by kernel_rfl) (by rfl) (by rfl) (fun K hK => ?_) (fun K hK => ?_)
      ·
        obtain ⟨cc, w5, hcv, hbw5, hsw5⟩ := convSB we ⟨#[100]⟩
        go_simp
        have HBw5 := Lib.hid hbw5
        have HSw5 : Hid (SlB w5 w5.heap.size (some ⟨we.heap.size, 0, none⟩) [100]) := hsw5
        refine hK.out _ _ (below_more hHeld hbw5 hHeld.size) (fun hHeld2 => ?_)
        clear hK K hHeld hcv hbw5 hsw5
        have hHeld := hHeld2
        clear hHeld2
        try simp only [Act.put, List.setIfInBounds_toArray, List.set_cons_zero, List.set_cons_succ]
        refine callV 12 rfl (by kernel_rfl) (by rfl) (fun K hK => ?_)
        go_simp
        obtain ⟨w6, hw6⟩ : ∃ X, w5.alloc (.cells #[.int .u8 52] 5) = X := ⟨_, rfl⟩
        have hbw6 : Below w5.heap.size w5 w6 := by rw [← hw6]; exact (Below.refl _ _).alloc (Nat.le_refl _) _
        have HBw6 := Lib.hid hbw6
        have HSw6 : Hid (SlB w6 w6.heap.size (some ⟨w5.heap.size, 0, none⟩) [52]) := by show SlB _ _ _ _; rw [← hw6]; exact lit_at w5 52 _ rfl
        rw [hw6]
        refine hK.out _ _ (below_more hHeld hbw6 hHeld.size) (fun hHeld2 => ?_)
        clear hK K hHeld hw6 hbw6
        have hHeld := hHeld2
        clear hHeld2
        try simp only [Act.put, List.setIfInBounds_toArray, List.set_cons_zero, List.set_cons_succ]
        refine callV 13 rfl (by kernel_rfl) (by rfl) (fun K hK => ?_)
        go_simp
        refine (HPT.out (some ⟨we.heap.size, 0, none⟩) (some ⟨w5.heap.size, 0, none⟩) cc 1 w6 hHeld (slB_up HSw5.out HBw6.out) HSw6.out).mono ?_
        rintro e w9 ⟨v9, rfl, ⟨b9, rfl⟩, ht9, hb9⟩
        have HT9 : Hid (TreeV w9 (.pointer (some ⟨b9, 0, none⟩)) [([97], [49]), ([98], [50]), ([100], [52])]) := ht9
        have HB9 := Lib.hid (HB.out.trans ((hHeld.trans (hb9.mono hHeld.size)).mono HB.out.size))
        refine hK.out _ _ (below_more hHeld hb9 hHeld.size) (fun hHeld2 => ?_)
        clear hK K hHeld ht9 hb9
        have hHeld := hHeld2
        clear hHeld2
        try simp only [Act.put, List.setIfInBounds_toArray, List.set_cons_zero, List.set_cons_succ]
        refine takeV 14 (some 11) ((.tuple #[.pointer (some ⟨b9, 0, none⟩), .int .i64 0])) rfl rfl (by kernel_rfl) (by kernel_rfl) (by kernel_rfl) (fun _ _ _ h => h) (by rfl) (by (intro _w _hSw; (try dsimp only at _hSw); go_simp)) (by assumption) ?_
        simp only [Act.put, List.setIfInBounds_toArray, List.set_cons_zero, List.set_cons_succ]
        refine takeV 15 (some 26) ((.pointer (some ⟨b9, 0, none⟩))) rfl rfl (by kernel_rfl) (by kernel_rfl) (by kernel_rfl) (fun _ _ _ h => h) (by rfl) (by (intro _w _hSw; (try dsimp only at _hSw); go_simp)) (by assumption) ?_
        simp only [Act.put, List.setIfInBounds_toArray, List.set_cons_zero, List.set_cons_succ]
        refine takeV 16 (some 27) ((.int .i64 0)) rfl rfl (by kernel_rfl) (by kernel_rfl) (by kernel_rfl) (fun _ _ _ h => h) (by rfl) (by (intro _w _hSw; (try dsimp only at _hSw); go_simp)) (by assumption) ?_
        simp only [Act.put, List.setIfInBounds_toArray, List.set_cons_zero, List.set_cons_succ]
        refine takeV 17 (some 3) ((.pointer (some ⟨b9, 0, none⟩))) rfl rfl (by kernel_rfl) (by kernel_rfl) (by kernel_rfl) (fun _ _ _ h => h) (by rfl) (by (intro _w _hSw; (try dsimp only at _hSw); go_simp)) (by assumption) ?_
        simp only [Act.put, List.setIfInBounds_toArray, List.set_cons_zero, List.set_cons_succ]
        refine wpAnyH_done (by kernel_rfl) ?_ _
        go_wp2
        go_roundg g
        case measure => omega
        case rel => exact ⟨3, some ⟨b9, 0, none⟩, by go_num, rfl, by omega, HT9.out, HB9.out⟩
      ·
        go_simp
        obtain ⟨w5, hw5⟩ : ∃ X, we.alloc (.cells #[.int .u8 52] 5) = X := ⟨_, rfl⟩
        have hbw5 : Below we.heap.size we w5 := by rw [← hw5]; exact (Below.refl _ _).alloc (Nat.le_refl _) _
        have HBw5 := Lib.hid hbw5
        have HSw5 : Hid (SlB w5 w5.heap.size (some ⟨we.heap.size, 0, none⟩) [52]) := by show SlB _ _ _ _; rw [← hw5]; exact lit_at we 52 _ rfl
        rw [hw5]
        refine hK.out _ _ (below_more hHeld hbw5 hHeld.size) (fun hHeld2 => ?_)
        clear hK K hHeld hw5 hbw5
        have hHeld := hHeld2
        clear hHeld2
        try simp only [Act.put, List.setIfInBounds_toArray, List.set_cons_zero, List.set_cons_succ]
        refine callV 6 rfl (by kernel_rfl) (by rfl) (fun K hK => ?_)
        obtain ⟨cc, w6, hcv, hbw6, hsw6⟩ := convSB w5 ⟨#[100]⟩
        go_simp
        have HBw6 := Lib.hid hbw6
        have HSw6 : Hid (SlB w6 w6.heap.size (some ⟨w5.heap.size, 0, none⟩) [100]) := hsw6
        refine hK.out _ _ (below_more hHeld hbw6 hHeld.size) (fun hHeld2 => ?_)
        clear hK K hHeld hcv hbw6 hsw6
        have hHeld := hHeld2
        clear hHeld2
        try simp only [Act.put, List.setIfInBounds_toArray, List.set_cons_zero, List.set_cons_succ]
        refine callV 13 rfl (by kernel_rfl) (by rfl) (fun K hK => ?_)
        go_simp
        refine (HPT.out (some ⟨w5.heap.size, 0, none⟩) (some ⟨we.heap.size, 0, none⟩) cc 1 w6 hHeld HSw6.out (slB_up HSw5.out HBw6.out)).mono ?_
        rintro e w9 ⟨v9, rfl, ⟨b9, rfl⟩, ht9, hb9⟩
        have HT9 : Hid (TreeV w9 (.pointer (some ⟨b9, 0, none⟩)) [([97], [49]), ([98], [50]), ([100], [52])]) := ht9
        have HB9 := Lib.hid (HB.out.trans ((hHeld.trans (hb9.mono hHeld.size)).mono HB.out.size))
        refine hK.out _ _ (below_more hHeld hb9 hHeld.size) (fun hHeld2 => ?_)
        clear hK K hHeld ht9 hb9
        have hHeld := hHeld2
        clear hHeld2
        try simp only [Act.put, List.setIfInBounds_toArray, List.set_cons_zero, List.set_cons_succ]
        refine takeV 14 (some 11) ((.tuple #[.pointer (some ⟨b9, 0, none⟩), .int .i64 0])) rfl rfl (by kernel_rfl) (by kernel_rfl) (by kernel_rfl) (fun _ _ _ h => h) (by rfl) (by (intro _w _hSw; (try dsimp only at _hSw); go_simp)) (by assumption) ?_
        simp only [Act.put, List.setIfInBounds_toArray, List.set_cons_zero, List.set_cons_succ]
        refine takeV 15 (some 26) ((.pointer (some ⟨b9, 0, none⟩))) rfl rfl (by kernel_rfl) (by kernel_rfl) (by kernel_rfl) (fun _ _ _ h => h) (by rfl) (by (intro _w _hSw; (try dsimp only at _hSw); go_simp)) (by assumption) ?_
        simp only [Act.put, List.setIfInBounds_toArray, List.set_cons_zero, List.set_cons_succ]
        refine takeV 16 (some 27) ((.int .i64 0)) rfl rfl (by kernel_rfl) (by kernel_rfl) (by kernel_rfl) (fun _ _ _ h => h) (by rfl) (by (intro _w _hSw; (try dsimp only at _hSw); go_simp)) (by assumption) ?_
        simp only [Act.put, List.setIfInBounds_toArray, List.set_cons_zero, List.set_cons_succ]
        refine takeV 17 (some 3) ((.pointer (some ⟨b9, 0, none⟩))) rfl rfl (by kernel_rfl) (by kernel_rfl) (by kernel_rfl) (fun _ _ _ h => h) (by rfl) (by (intro _w _hSw; (try dsimp only at _hSw); go_simp)) (by assumption) ?_
        simp only [Act.put, List.setIfInBounds_toArray, List.set_cons_zero, List.set_cons_succ]
        refine wpAnyH_done (by kernel_rfl) ?_ _
        go_wp2
        go_roundg g
        case measure => omega
        case rel => exact ⟨3, some ⟨b9, 0, none⟩, by go_num, rfl, by omega, HT9.out, HB9.out⟩
def RgEnd (w : World) (L : List Pr) (e : Ending) (w' : World) : Prop := ∃ A c qs, e = .returned (.slice A L.length c) ∧ OwnQ w' w.heap.size (.slice A L.length c) qs ∧ qs.map (·.1) = L ∧ Below w.heap.size w w'
theorem rgEnd_of {w : World} {L : List Pr} {e : Ending} {w' : World} (h : ∃ v' qs, e = .returned v' ∧ OwnQ w' w.heap.size v' qs ∧ qs.map (·.1) = L ∧ Below w.heap.size w w') : RgEnd w L e w' := by
  obtain ⟨v, qs, rfl, ho, hq, hb⟩ := h
  have hn := ownQ_len ho hq
  obtain ⟨A, c, rfl⟩ := ho.form
  rw [hn] at ho ⊢
  exact ⟨A, c, qs, rfl, ho, hq, hb⟩
theorem rngG {v : Value} {L M : List Pr} (A A' : Option Addr) (c c' : Nat) (k to : By) (most : Int) (w : World) (h : TreeV w v L) (hk : SlB w w.heap.size A k) (ht : SlB w w.heap.size A' to) (hM : rgL to most (fromL k L) = M) :
    Calls Try.prog 18 #[v, .slice A k.length c, .slice A' to.length c', .int .i64 most] w (RgEnd w M) :=
  (rangeM_any A A' c c' k to most w h hk ht).mono fun _ _ h => by rw [hM] at h; exact rgEnd_of h
theorem diffG {v v2 : Value} {L L2 M : List Pr} (w : World) (h : TreeV w v L) (hh : TreeV w v2 L2) (hM : diffL L L2 = M) :
    Calls Try.prog 16 #[v, v2] w (RgEnd w M) :=
  (diffM_any w h hh).mono fun _ _ h => by rw [hM] at h; exact rgEnd_of h
def GtEnd (w : World) (x : By) (e : Ending) (w' : World) : Prop := ∃ A c, e = .returned (.tuple #[.slice A x.length c, .bool true]) ∧ SlB w' w'.heap.size A x ∧ Below w.heap.size w w'
theorem getG {v : Value} {L : List Pr} (A : Option Addr) (c : Nat) (k x : By) (w : World) (h : TreeV w v L) (hk : SlB w w.heap.size A k) (hx : getL L k = some x) :
    Calls Try.prog 20 #[v, .slice A k.length c] w (GtEnd w x) :=
  (getM_any A c k w h hk).mono fun _ _ h => by
    rw [hx] at h
    obtain ⟨A', c', rfl, ho, hb⟩ := h
    exact ⟨A', c', rfl, (SlB.of_own ho).2, hb⟩
def PtEnd (w : World) (L : List Pr) (e : Ending) (w' : World) : Prop := ∃ b, e = .returned (.tuple #[.pointer (some ⟨b, 0, none⟩), .int .i64 0]) ∧ TreeV w' (.pointer (some ⟨b, 0, none⟩)) L ∧ Below w.heap.size w w'
theorem putG {v : Value} {L M : List Pr} (A A' : Option Addr) (c c' : Nat) (k x : By) (w : World) (h : TreeV w v L) (hk : SlB w w.heap.size A k) (hx : SlB w w.heap.size A' x) (hc : k.length ≤ 4096) (hd : x.length ≤ 65536) (hL : L.length < 100000) (hM : putL L (k, x) = M) :
    Calls Try.prog 10 #[v, .slice A k.length c, .slice A' x.length c'] w (PtEnd w M) :=
  (putM_any A A' c c' k x w h hk hx hc hd hL).mono fun _ _ h => by
    rw [hM] at h
    obtain ⟨v', rfl, ⟨b, rfl⟩, ht, hb⟩ := h
    exact ⟨b, rfl, ht, hb⟩
def CtEnd (w : World) (L : List Pr) (e : Ending) (w' : World) : Prop := ∃ b, e = .returned (.pointer (some ⟨b, 0, none⟩)) ∧ TreeV w' (.pointer (some ⟨b, 0, none⟩)) L ∧ Below w.heap.size w w'
theorem cutG {v : Value} {L M : List Pr} (A : Option Addr) (c : Nat) (k : By) (w : World) (h : TreeV w v L) (hk : SlB w w.heap.size A k) (hM : cutL L k = M) :
    Calls Try.prog 12 #[v, .slice A k.length c] w (CtEnd w M) :=
  (cutM_any A c k w h hk).mono fun _ _ h => by
    rw [hM] at h
    obtain ⟨v', rfl, ⟨b, rfl⟩, ht, hb⟩ := h
    exact ⟨b, rfl, ht, hb⟩
theorem cells_of {w : World} {B c : Nat} {A : Option Addr} {qs : List Q3} {p : Pr} (h : OwnQ w B (.slice A 1 c) qs) (hq : qs.map (·.1) = [p]) :
    ∃ g A1 c1 A2 c2, A = some ⟨g, 0, none⟩ ∧ g < w.heap.size ∧ w.cell? ⟨g, 0, none⟩ = some (.slice A1 p.1.length c1) ∧ w.cell? ⟨g, 1, none⟩ = some (.slice A2 p.2.length c2) ∧ SlB w w.heap.size A1 p.1 ∧ SlB w w.heap.size A2 p.2 := by
  have := h.pair hq (i := 0) (p := p) rfl
  simpa using this
theorem putNo (A A' : Option Addr) (v : Value) (n m c c' : Nat) (w : World) (hn : 4096 < n ∨ 65536 < m) :
    Calls Try.prog 10 #[v, .slice A n c, .slice A' m c'] w fun e w' => e = .returned (.tuple #[.pointer none, .int .i64 100]) ∧ w = w' := by
  have h := putM_no v A A' c c' (List.replicate n 0) (List.replicate m 0) w (by rw [List.length_replicate, List.length_replicate]; exact hn)
  rw [List.length_replicate, List.length_replicate] at h
  exact h
end Go.Proofs.Ythldmdcjfeekeaa
