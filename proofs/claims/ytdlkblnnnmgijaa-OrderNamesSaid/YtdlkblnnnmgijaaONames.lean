/-
  THE LAW OrderNames: its walk.
-/
import Derived.Test.YtdlkblnnnmgijaaOReads
import Derived.Test.YtdlkblnnnmgijaaOKeyW
import Derived.Test.YtdlkblnnnmgijaaOBytes
namespace Go.Proofs.Ytdlkblnnnmgijaa
open Go.RowKit Go.Shelf

theorem slB_lit {W : World} {cs : Array Value} {t : TypeId} {l : List UInt8} (h : cs.toList = cellsL l) : SlB (W.alloc (.cells cs t)) (W.heap.size + 1) (some ⟨W.heap.size, 0, none⟩) l := fun _ => ⟨_, rfl, Nat.lt_succ_self _, fun j x hx => by
  refine cell_lit W cs t j _ ?_
  rw [h]
  unfold cellsL
  rw [List.getElem?_map, hx]; rfl⟩
theorem slK_lit {W : World} {cs : Array Value} {t : TypeId} {l : List Bool} (h : cs.toList = l.map Value.bool) : SlK (W.alloc (.cells cs t)) (W.heap.size + 1) (some ⟨W.heap.size, 0, none⟩) l := fun _ => ⟨_, rfl, Nat.lt_succ_self _, fun j x hx => by
  refine cell_lit W cs t j _ ?_
  rw [h, List.getElem?_map, hx]; rfl⟩
theorem slP_lit {W : World} {t : TypeId} (p : PartP) : SlP (W.alloc (.cells #[.bool p.v, .int .i64 p.n, .int .i64 p.k, .int .i64 p.m, .string p.s] t)) (W.heap.size + 1) (some ⟨W.heap.size, 0, none⟩) [p] := fun _ => ⟨_, _, rfl, Nat.lt_succ_self _, fun j q hq => by
  cases j with
  | succ j => simp at hq
  | zero =>
    have e : p = q := by simpa using hq
    subst e
    have h := fun i u hi => cell_lit W #[.bool p.v, .int .i64 p.n, .int .i64 p.k, .int .i64 p.m, .string p.s] t i u hi
    exact ⟨h 0 _ rfl, h 1 _ rfl, h 2 _ rfl, h 3 _ rfl, h 4 _ rfl⟩⟩
/-- Read of some bytes by one kind, a value. -/
theorem read_lit (l : List UInt8) (cs : Array Value) (n : Nat) (m : Int) (w : World) (hcs : cs.toList = cellsL l) (hn : n = l.length) (hl : l.length ≤ 100) (hm : readN [true] l = m) (L : List PartP) (hL : (readL [true] l).getD [] = L) :
    Calls Try.prog 24 #[.slice (some ⟨w.heap.size, 0, none⟩) n n, .slice (some ⟨w.heap.size + 1, 0, none⟩) 1 1] ((w.alloc (.cells cs 5)).alloc (.cells #[.bool true] 4)) fun e w' =>
      ∃ A c, e = .returned (.tuple #[.slice A L.length c, .int .i64 m]) ∧ SlP w' w'.heap.size A L ∧ Below w.heap.size w w' := by
  subst hn
  have hb := slB_lit (W := w) (t := 5) hcs
  have hk := slK_lit (W := w.alloc (.cells cs 5)) (t := 4) (l := [true]) (cs := #[.bool true]) rfl
  rw [World.size_alloc] at hk
  have hb2 : Below (w.heap.size + 1) (w.alloc (.cells cs 5)) ((w.alloc (.cells cs 5)).alloc (.cells #[.bool true] 4)) := (Below.refl _ _).alloc (by simp) _
  have hmx : 50000 ≤ maxLen := by decide
  refine (read_any (some ⟨w.heap.size, 0, none⟩) (some ⟨w.heap.size + 1, 0, none⟩) l.length 1 l [true] _ ((hb.next hb2 (Nat.le_refl _)).more (by simp)) (SlK.more hk (by simp)) (by omega) (by simp) (Nat.le_refl _) (by omega)).mono ?_
  intro e w' he
  obtain ⟨A, c, rfl, hs, hbw⟩ := readEnd_form he
  rw [hm, hL]
  rw [hL] at hs
  exact ⟨A, c, rfl, hs, (((Below.refl _ _).alloc (Nat.le_refl _) _).alloc (by simp) _).trans (hbw.mono (by simp; omega))⟩
theorem read_empty (w : World) : Calls Try.prog 24 #[.slice none 0 0, .slice none 0 0] w fun e w' => ∃ A c, e = .returned (.tuple #[.slice A 0 c, .int .i64 0]) ∧ Below w.heap.size w w' := by
  refine (read_any none none 0 0 [] [] w (fun h => absurd rfl h) (fun h => absurd rfl h) (by decide) (by decide) (by decide) (by decide)).mono ?_
  intro e w' he
  obtain ⟨A, c, rfl, _, hbw⟩ := readEnd_form he
  exact ⟨A, c, rfl, hbw⟩
theorem value_no (w : World) : Calls Try.prog 20 #[.agg #[.int .i64 0, .int .i64 0, .string ⟨#[]⟩]] w fun e w' => e = .returned (.tuple #[.slice none 0 0, .int .i64 10]) ∧ Below w.heap.size w w' := by
  refine (value_any 0 0 ⟨#[]⟩ w (by decide) (by decide) (by decide)).mono ?_
  rintro e w' (⟨hm, _⟩ | ⟨_, rfl, hb⟩)
  · exact absurd hm (by decide)
  · exact ⟨rfl, hb⟩
theorem key_no (w : World) : Calls Try.prog 16 #[.slice (some ⟨w.heap.size, 0, none⟩) 1 1] (w.alloc (.cells #[.bool true, .int .i64 0, .int .i64 0, .int .i64 0, .string ⟨#[]⟩] 40)) fun e w' => e = .returned (.tuple #[.slice none 0 0, .int .i64 10]) ∧ Below w.heap.size w w' := by
  have hs := slP_lit (W := w) (t := 40) ⟨true, 0, 0, 0, ⟨#[]⟩⟩
  refine (key_any (some ⟨w.heap.size, 0, none⟩) 1 [⟨true, 0, 0, 0, ⟨#[]⟩⟩] _ (hs.more (by simp)) (by decide) (fun p hp => by rw [List.mem_singleton.1 hp]; exact ⟨by decide, by decide⟩)).mono ?_
  rintro e w' (⟨hm, _⟩ | ⟨_, rfl, hb⟩)
  · exact absurd hm (by decide)
  · exact ⟨rfl, ((Below.refl _ _).alloc (Nat.le_refl _) _).trans (hb.mono (by simp))⟩
theorem end_yes (w : World) : Calls Try.prog 18 #[.slice (some ⟨w.heap.size, 0, none⟩) 2 2] (w.alloc (.cells #[.int .u8 97, .int .u8 255] 5)) fun e w' => ∃ A c, e = .returned (.tuple #[.slice A 1 c, .bool true]) ∧ SlB w' w'.heap.size A [98] ∧ Below w.heap.size w w' := by
  have hs := slB_lit (W := w) (t := 5) (cs := #[.int .u8 97, .int .u8 255]) (l := [97, 255]) rfl
  refine (end_any (some ⟨w.heap.size, 0, none⟩) 2 [97, 255] _ (hs.more (by simp)) (by decide) (by decide)).mono ?_
  rintro e w' ⟨v, is, rfl, h, hb⟩
  have hw := ((Below.refl w.heap.size w).alloc (Nat.le_refl _) (.cells #[.int .u8 97, .int .u8 255] 5)).trans (hb.mono (by simp))
  have hx0 : endF [97, 255] = some [98] := by decide
  rcases h with ⟨rfl, x, hx, ho⟩ | ⟨_, hx, _⟩
  · rw [hx0] at hx
    cases hx
    obtain ⟨A, c, rfl⟩ := ownB_form ho
    exact ⟨A, c, rfl, (SlB.of_own ho).2, hw⟩
  · rw [hx0] at hx; cases hx
theorem end_not (w : World) : Calls Try.prog 18 #[.slice (some ⟨w.heap.size, 0, none⟩) 1 1] (w.alloc (.cells #[.int .u8 255] 5)) fun e w' => ∃ v, e = .returned (.tuple #[v, .bool false]) ∧ Below w.heap.size w w' := by
  have hs := slB_lit (W := w) (t := 5) (cs := #[.int .u8 255]) (l := [255]) rfl
  refine (end_any (some ⟨w.heap.size, 0, none⟩) 1 [255] _ (hs.more (by simp)) (by decide) (by decide)).mono ?_
  rintro e w' ⟨v, is, rfl, h, hb⟩
  have hw := ((Below.refl w.heap.size w).alloc (Nat.le_refl _) (.cells #[.int .u8 255] 5)).trans (hb.mono (by simp))
  have hx0 : endF [255] = none := by decide
  rcases h with ⟨_, x, hx, _⟩ | ⟨rfl, _, _⟩
  · rw [hx0] at hx; cases hx
  · exact ⟨v, rfl, hw⟩
theorem eqVal (k n : Int) (s : ByteArray) (w : World) : (binOp .eql 24 (.agg #[.int .i64 k, .int .i64 n, .string s]) (.agg #[.int .i64 k, .int .i64 n, .string s])).run Try.prog w = .ok (.bool true) w := by
  have u3 := Try.underlying3
  have u2 := Try.underlying2
  have u9 := Try.underlying9
  have a3 := Try.isAgg3
  have a2 := Try.isAgg2
  have a9 := Try.isAgg9
  have hS : Try.prog.underlying 24 = some (.struct (Try.prog.fieldsOf 24)) := by kernel_rfl
  have hp : Try.prog.stoodInHeld 24 = false := by kernel_rfl
  rw [run_eql_struct, show (10000 : Nat) = 9999 + 1 from rfl, run_equalIn_agg w 9999 24 _ _ hS hp]
  simp only [Program.fieldsOf, Try.underlying24]
  go_simp

set_option maxRecDepth 100000 in
set_option maxHeartbeats 4000000 in
theorem onames_any (w : World) : Calls Try.prog 6 #[] w fun e w' => e = .returned (.bool true) ∧ Below w.heap.size w w' := by
  have HB0 := Lib.hid (Below.refl w.heap.size w)
  have hq := eqVal 2 1 ⟨#[]⟩
  go_enter Try.func6, Try.ntmps6
  go_wp2_with fail
  refine (read_lit [2, 1] #[.int .u8 2, .int .u8 1] 2 0 _ rfl rfl (by decide) (by decide +kernel) [⟨true, 0, 2, 1, ⟨#[]⟩⟩] (by rfl)).mono ?_
  rintro e w1 ⟨XA, xc, rfl, hx, hb⟩
  have HB1 := Lib.hid (HB0.out.trans (hb.mono HB0.out.size))
  have HX1 := Lib.hid hx
  clear hb HB0 hx
  go_wp2_with fail
  refine (read_lit [2, 2] #[.int .u8 2, .int .u8 2] 2 20 _ rfl rfl (by decide) (by decide +kernel) [] (by rfl)).mono ?_
  rintro e w2 ⟨A2, c2, rfl, _, hb⟩
  have HB2 := Lib.hid (HB1.out.trans (hb.mono HB1.out.size))
  have HX2 := Lib.hid ((HX1.out.next hb (Nat.le_refl _)).more hb.size)
  clear hb HB1 HX1
  go_wp2_with fail
  refine (read_lit [2] #[.int .u8 2] 1 20 _ rfl rfl (by decide) (by decide +kernel) [] (by rfl)).mono ?_
  rintro e w3 ⟨A3, c3, rfl, _, hb⟩
  have HB3 := Lib.hid (HB2.out.trans (hb.mono HB2.out.size))
  have HX3 := Lib.hid ((HX2.out.next hb (Nat.le_refl _)).more hb.size)
  clear hb HB2 HX2
  go_wp2_with fail
  refine (read_lit [2, 1, 0] #[.int .u8 2, .int .u8 1, .int .u8 0] 3 20 _ rfl rfl (by decide) (by decide +kernel) [] (by rfl)).mono ?_
  rintro e w4 ⟨A4, c4, rfl, _, hb⟩
  have HB4 := Lib.hid (HB3.out.trans (hb.mono HB3.out.size))
  have HX4 := Lib.hid ((HX3.out.next hb (Nat.le_refl _)).more hb.size)
  clear hb HB3 HX3
  go_wp2_with fail
  refine (read_empty _).mono ?_
  rintro e w5 ⟨A5, c5, rfl, hb⟩
  have HB5 := Lib.hid (HB4.out.trans (hb.mono HB4.out.size))
  have HX5 := Lib.hid ((HX4.out.next hb (Nat.le_refl _)).more hb.size)
  clear hb HB4 HX4
  go_wp2_with fail
  refine (value_no _).mono ?_
  rintro e w6 ⟨rfl, hb⟩
  have HB6 := Lib.hid (HB5.out.trans (hb.mono HB5.out.size))
  have HX6 := Lib.hid ((HX5.out.next hb (Nat.le_refl _)).more hb.size)
  clear hb HB5 HX5
  go_wp2_with fail
  refine (key_no _).mono ?_
  rintro e w7 ⟨rfl, hb⟩
  have HB7 := Lib.hid (HB6.out.trans (hb.mono HB6.out.size))
  have HX7 := Lib.hid ((HX6.out.next hb (Nat.le_refl _)).more hb.size)
  clear hb HB6 HX6
  go_wp2_with fail
  refine (end_yes _).mono ?_
  rintro e w8 ⟨EA, ec, rfl, hE, hb⟩
  have HB8 := Lib.hid (HB7.out.trans (hb.mono HB7.out.size))
  have HX8 := Lib.hid ((HX7.out.next hb (Nat.le_refl _)).more hb.size)
  have HE8 := Lib.hid hE
  clear hb HB7 HX7 hE
  go_wp2_with fail
  refine (end_not _).mono ?_
  rintro e w9 ⟨EV, rfl, hb⟩
  have HB9 := Lib.hid (HB8.out.trans (hb.mono HB8.out.size))
  have HX9 := Lib.hid ((HX8.out.next hb (Nat.le_refl _)).more hb.size)
  have HE9 := Lib.hid ((HE8.out.next hb (Nat.le_refl _)).more hb.size)
  clear hb HB8 HX8 HE8
  go_wp2_with fail
  refine (alive_any _).mono ?_
  rintro e w10 ⟨rfl, hb⟩
  have HB10 := Lib.hid (HB9.out.trans (hb.mono HB9.out.size))
  have HX10 := Lib.hid ((HX9.out.next hb (Nat.le_refl _)).more hb.size)
  have HE10 := Lib.hid ((HE9.out.next hb (Nat.le_refl _)).more hb.size)
  clear hb HB9 HX9 HE9
  obtain ⟨b, o, rfl, _, hp⟩ := HX10.out.at_ (j := 0) (by simp)
  have g2 := hp.c2
  have g3 := hp.c3
  have g4 := hp.c4
  simp only [Nat.zero_mul, Nat.add_zero, List.getElem_cons_zero] at g2 g3 g4
  have hcv : (convert 29 9 (.slice EA 1 ec)).run Try.prog w10 = .ok (.string ⟨#[98]⟩) w10 := slB_string HE10.out ec
  clear hp
  go_wp2_with fail
  refine (number_any (-1) _ (by decide) (by decide)).mono ?_
  rintro e w11 ⟨g, rfl, hg, _, hb⟩
  have hn := num_string (by rfl) hg
  have hnv : numB (-1) = [127, 255, 255, 255, 255, 255, 255, 255] := by decide +kernel
  rw [hnv] at hn
  have HB11 := Lib.hid (HB10.out.trans (hb.mono HB10.out.size))
  clear hb hg hnv g2 g3 g4 hcv HX10 HE10
  go_wp2
  go_ret
  exact ⟨rfl, HB11.out⟩
end Go.Proofs.Ytdlkblnnnmgijaa
