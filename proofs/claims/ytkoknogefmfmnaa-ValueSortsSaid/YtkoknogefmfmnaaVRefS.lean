/-
  CONTRACT: the document's Sorted of values.
-/
import Derived.Test.YtkoknogefmfmnaaVRef
import Derived.StillTailTactics
namespace Go.Proofs.Ytkoknogefmfmnaa
open Go.RowKit Go.Shelf

theorem cutV_zero (A : Option Addr) (c : Nat) : cutV A c 0 = A := by
  unfold cutV
  split
  · rfl
  · cases A with
    | none => rfl
    | some a =>
      show some (a.add (0 * 3)) = some a
      rw [Nat.zero_mul]
      congr 1
theorem sliceV_to (A : Option Addr) (n c k : Nat) (hk : k ≤ c) (w : World) : (Instr.slice 22 (.slice A n c) none (some (.int .i64 (k : Int))) none).run Try.prog w = .ok (.slice A k c) w := by
  have hT : Try.prog.underlying 22 = some (.slice (Try.prog.elem 22)) := by kernel_rfl
  have hS : (Go.sizeOf (Try.prog.elem 22)).run Try.prog w = .ok 3 w := by kernel_rfl
  rw [run_slice_h (w := w) 22 A n c hT .i64 (k : Int) (by omega) (by omega), hS]
  have := cutV_zero A c
  unfold cutV at this
  simp [Result.andThen, sliced]
  simpa using this
theorem OwnV.low {W : World} {B B' : Nat} {v : Value} {l : List Vl} (h : OwnV W B v l) (hB : B' ≤ B) : OwnV W B' v l := by
  refine ⟨h.1, ?_⟩
  rcases h.2 with h | ⟨g, cap, cur, h1, h2, h3⟩
  · exact .inl h
  · exact .inr ⟨g, cap, cur, h1, by omega, h3⟩
theorem VlAt.drew {W : World} {b o : Nat} {v : Vl} (h : VlAt W b o v) : VlAt W.drew b o v := ⟨h.c0, h.c1, h.c2⟩
theorem OwnV.next {W W' : World} {B : Nat} {v : Value} {l : List Vl} (h : OwnV W B v l) (hb : Below W.heap.size W W') : OwnV W' B v l := by
  refine ⟨h.1, ?_⟩
  rcases h.2 with h | ⟨g, cap, cur, h1, h2, h3, h4⟩
  · exact .inl h
  · exact .inr ⟨g, cap, cur, h1, h2, (hb.block g (Array.getElem?_eq_some_iff.1 h3).1).trans h3, h4⟩
theorem cutV_none {A : Option Addr} {c k : Nat} (h : cutV A c k = none) : A = none := by
  unfold cutV at h
  split at h
  · exact h
  · simpa using h
theorem litV (w3 : World) (x : Vl) (ad : Addr) (h : some (⟨w3.heap.size, 0, none⟩ : Addr) = some ad) (j : Nat) (u : Value) (hu : ([x].flatMap cellsV)[j]? = some u) :
    (w3.alloc (.cells #[.int .i64 x.1, .int .i64 x.2.1, .string x.2.2] 24)).cell? (ad.add j) = some u := by
  cases h
  rw [addI, Nat.zero_add, World.cell?_alloc_new]
  simpa [cellsV] using hu

set_option maxRecDepth 100000 in
set_option maxHeartbeats 2000000 in
theorem refSortV_any (A : Option Addr) (c : Nat) (l : List Vl) (w : World) (hs : SlV w w.heap.size A l) (hl : l.length ≤ 10000) (hz : ∀ v ∈ l, v.2.2.size ≤ maxLen) :
    Calls Try.prog 9 #[.slice A l.length c] w fun e w' => ∃ v, e = .returned v ∧ OwnV w' w.heap.size v (putsG VOrd.ordT l) ∧ Below w.heap.size w w' := by
  obtain ⟨i0, hi, hz0, hz1, hz2⟩ := info_parts info22
  have hmx : 50000 ≤ maxLen := by decide
  have HS := Lib.hid hs
  have HZ := Lib.hid hz
  clear hs hz
  go_enter Try.func9, Try.ntmps9
  go_wp2
  go_loopg [3, 4, 5, 6] l.length (fun g x y _ _ wv => ∃ (j : Nat) (acc : List Vl), OwnV wv w.heap.size x acc ∧ y = .int .i64 j ∧ j + g = l.length ∧ acc.length ≤ j ∧ Hid (acc = putsG VOrd.ordT (l.take j)) ∧ Hid (Below w.heap.size w wv) ∧ w.heap.size ≤ wv.heap.size)
  case atStart => exact ⟨0, [], World.ownsRow_nil _ _ _ _, rfl, by omega, Nat.le_refl _, rfl, Below.refl _ _, Nat.le_refl _⟩
  case round =>
    rename World => wo
    obtain ⟨j, acc, ho, rfl, hj, haj, HA, HB, hsz⟩ := hrel
    obtain ⟨A1, c1, rfl, hsA, hl1, hc1, hn1⟩ := ho.form
    have HO := Lib.hid ho
    have HSA := Lib.hid hsA
    have HN1 := Lib.hid hn1
    clear ho hsA hn1
    cases gk with
    | zero =>
      have hjz : ¬ ((j : Int) < (l.length : Int)) := by omega
      have HE : Hid (acc = putsG VOrd.ordT l) := by
        have := HA.out
        rw [List.take_of_length_le (by omega)] at this
        exact this
      go_wp2
      go_ret
      exact ⟨_, rfl, by rw [← HE.out]; exact HO.out, HB.out⟩
    | succ g =>
      have hjz : (j : Int) < (l.length : Int) := by omega
      have hjn : j < l.length := by omega
      have hpt := putsG_take (o := VOrd.ordT) hjn
      rw [← HA.out] at hpt
      have hxz := HZ.out _ (List.getElem_mem hjn)
      obtain ⟨b, q, rfl, hblt, hp⟩ := (HS.out.next HB.out (Nat.le_refl _)).at_ hjn
      obtain ⟨x, hpe⟩ : ∃ p, l[j] = p := ⟨_, rfl⟩
      rw [hpe] at hp hpt hxz
      have HPT := Lib.hid hpt
      have HP := Lib.hid hp
      have HAZ : Hid (∀ v ∈ acc, v.2.2.size ≤ maxLen) := fun v hv => by
        rw [HA.out] at hv
        have := ((putsG_from VOrd.ordT_is (l.take j) [] List.Pairwise.nil).2 v).1 hv
        rcases this with h | h
        · cases h
        · exact HZ.out v (List.mem_of_mem_take h)
      obtain ⟨P, hP⟩ : ∃ P, putAt VOrd.ordT x acc = P := ⟨_, rfl⟩
      have hPl : P ≤ acc.length := by rw [← hP]; exact putAt_le x acc
      have hlt := fun i y h hy => putAt_ltQ (o := VOrd.ordT) (x := x) (y := y) (l := acc) (i := i) h hy
      have hen := fun y hy => putAt_endQ (o := VOrd.ordT) (x := x) (y := y) (l := acc) hy
      have hold := fun y hy h0 => putG_oldQ (o := VOrd.ordT) (x := x) (y := y) (l := acc) hy h0
      have hnew := fun h0 => putG_newQ (o := VOrd.ordT) (x := x) (l := acc) h0
      rw [hP] at hlt hen hold hnew
      have HLT := Lib.hid hlt
      have HEN := Lib.hid hen
      have HOLD := Lib.hid hold
      have HNEW := Lib.hid hnew
      have hal : acc.length ≤ 10000 := by omega
      clear hp hpe hpt hP hlt hen hold hnew
      go_wp2
      go_loopg [5] P (fun g y wi => ∃ a : Nat, y = .int .i64 a ∧ a + g = P ∧ Hid (Below wo.heap.size wo wi) ∧ wo.heap.size ≤ wi.heap.size)
      case atStart => exact ⟨0, rfl, by omega, Below.refl _ _, Nat.le_refl _⟩
      case round =>
        rename World => wi
        obtain ⟨a, rfl, ha, HBi, hszi⟩ := hrel
        cases gk with
        | succ g2 =>
          have ham : (a : Int) < (acc.length : Int) := by omega
          have han : a < acc.length := by omega
          have hOO := HLT.out a acc[a] (by omega) (List.getElem?_eq_getElem han)
          have HYZ := Lib.hid (HAZ.out _ (List.getElem_mem han))
          obtain ⟨bA, oA, rfl, hbl, hpa⟩ := (HSA.out.next HBi.out (Nat.le_refl _)).at_ han
          obtain ⟨y, hye⟩ : ∃ y, acc[a] = y := ⟨_, rfl⟩
          rw [hye] at hpa hOO HYZ
          have HBB : Hid (bA < wi.heap.size ∧ b < wi.heap.size) := by show _ ∧ _; omega
          have HYA1 := Lib.hid hpa
          have HXA1 := Lib.hid (HP.out.next HBi.out (by omega))
          obtain ⟨O, hO⟩ : ∃ O, ordV y.1 y.2.1 y.2.2 x.1 x.2.1 x.2.2 = O := ⟨_, rfl⟩
          have hOl : O < 0 := by rw [← hO]; exact hOO
          have HO1 := Lib.hid hO
          clear hpa hye hOO hO
          have HSD1 : Hid (CsV wi.heap.size bA (oA + a * 3) b (q + j * 3) y x wi.drew) := ⟨HYA1.out.drew, HXA1.out.drew, by have := HBB.out; omega, Nat.le_refl _⟩
          obtain ⟨wd1, hwd1⟩ : ∃ wd, wi.drew = wd := ⟨_, rfl⟩
          have HBD1 : Hid (Below wo.heap.size wo wd1) := by rw [← hwd1]; exact HBi.out.drew
          rw [hwd1] at HSD1
          go_wp2_with fail
          refine wp_region_held_drew (S := CsV wi.heap.size bA (oA + a * 3) b (q + j * 3) y x) (by kernel_rfl) (by rw [hwd1]; exact HSD1.out) (fun hHeld => ?_)
          rw [hwd1] at hHeld ⊢
          clear hwd1
          refine takeV 0 (some 13) ((.int .i64 a)) rfl rfl (by kernel_rfl) (by kernel_rfl) (by kernel_rfl) (fun _ _ _ h => h) (by rfl) (by (intro _w _hSw; (try dsimp only at _hSw); go_simp)) (by assumption) ?_
          simp only [Act.put, List.setIfInBounds_toArray, List.set_cons_zero, List.set_cons_succ]
          refine takeV 1 (some 14) ((.slice (some ⟨bA, oA, none⟩) acc.length c1)) rfl rfl (by kernel_rfl) (by kernel_rfl) (by kernel_rfl) (fun _ _ _ h => h) (by rfl) (by (intro _w _hSw; (try dsimp only at _hSw); go_simp)) (by assumption) ?_
          simp only [Act.put, List.setIfInBounds_toArray, List.set_cons_zero, List.set_cons_succ]
          refine takeV 2 (some 15) ((.int .i64 acc.length)) rfl rfl (by kernel_rfl) (by kernel_rfl) (by kernel_rfl) (fun _ _ _ h => h) (by rfl) (by (intro _w _hSw; (try dsimp only at _hSw); go_simp)) (by assumption) ?_
          simp only [Act.put, List.setIfInBounds_toArray, List.set_cons_zero, List.set_cons_succ]
          refine takeV 3 (some 16) ((.bool true)) rfl rfl (by kernel_rfl) (by kernel_rfl) (by kernel_rfl) (fun _ _ _ h => h) (by rfl) (by (intro _w _hSw; (try dsimp only at _hSw); go_simp)) (by assumption) ?_
          simp only [Act.put, List.setIfInBounds_toArray, List.set_cons_zero, List.set_cons_succ]
          refine takeV 4 (some 17) ((.bool true)) rfl rfl (by kernel_rfl) (by kernel_rfl) (by kernel_rfl) (fun _ _ _ h => h) (by rfl) (by (intro _w _hSw; (try dsimp only at _hSw); go_simp)) (by assumption) ?_
          simp only [Act.put, List.setIfInBounds_toArray, List.set_cons_zero, List.set_cons_succ]
          refine takeV 5 (some 18) ((.slice (some ⟨bA, oA, none⟩) acc.length c1)) rfl rfl (by kernel_rfl) (by kernel_rfl) (by kernel_rfl) (fun _ _ _ h => h) (by rfl) (by (intro _w _hSw; (try dsimp only at _hSw); go_simp)) (by assumption) ?_
          simp only [Act.put, List.setIfInBounds_toArray, List.set_cons_zero, List.set_cons_succ]
          refine takeV 6 (some 19) ((.int .i64 a)) rfl rfl (by kernel_rfl) (by kernel_rfl) (by kernel_rfl) (fun _ _ _ h => h) (by rfl) (by (intro _w _hSw; (try dsimp only at _hSw); go_simp)) (by assumption) ?_
          simp only [Act.put, List.setIfInBounds_toArray, List.set_cons_zero, List.set_cons_succ]
          refine takeV 7 (some 20) ((.pointer (some ⟨bA, oA + a * 3, none⟩))) rfl rfl (by kernel_rfl) (by kernel_rfl) (by kernel_rfl) (fun _ _ _ h => h) (by rfl) (by (intro _w _hSw; (try dsimp only at _hSw); go_simp)) (by assumption) ?_
          simp only [Act.put, List.setIfInBounds_toArray, List.set_cons_zero, List.set_cons_succ]
          refine takeV 8 (some 21) ((.agg #[.int .i64 y.1, .int .i64 y.2.1, .string y.2.2])) rfl rfl (by kernel_rfl) (by kernel_rfl) (by kernel_rfl) (fun _ _ _ h => h) (by rfl) (by (intro _w hSw; have k0 := hSw.1.c0; have k1 := hSw.1.c1; have k2 := hSw.1.c2; clear hSw; go_simp)) (by assumption) ?_
          simp only [Act.put, List.setIfInBounds_toArray, List.set_cons_zero, List.set_cons_succ]
          refine takeV 9 (some 22) ((.slice (some ⟨b, q, none⟩) l.length c)) rfl rfl (by kernel_rfl) (by kernel_rfl) (by kernel_rfl) (fun _ _ _ h => h) (by rfl) (by (intro _w _hSw; (try dsimp only at _hSw); go_simp)) (by assumption) ?_
          simp only [Act.put, List.setIfInBounds_toArray, List.set_cons_zero, List.set_cons_succ]
          refine takeV 10 (some 23) ((.int .i64 j)) rfl rfl (by kernel_rfl) (by kernel_rfl) (by kernel_rfl) (fun _ _ _ h => h) (by rfl) (by (intro _w _hSw; (try dsimp only at _hSw); go_simp)) (by assumption) ?_
          simp only [Act.put, List.setIfInBounds_toArray, List.set_cons_zero, List.set_cons_succ]
          refine takeV 11 (some 24) ((.pointer (some ⟨b, q + j * 3, none⟩))) rfl rfl (by kernel_rfl) (by kernel_rfl) (by kernel_rfl) (fun _ _ _ h => h) (by rfl) (by (intro _w _hSw; (try dsimp only at _hSw); go_simp)) (by assumption) ?_
          simp only [Act.put, List.setIfInBounds_toArray, List.set_cons_zero, List.set_cons_succ]
          refine takeV 12 (some 25) ((.agg #[.int .i64 x.1, .int .i64 x.2.1, .string x.2.2])) rfl rfl (by kernel_rfl) (by kernel_rfl) (by kernel_rfl) (fun _ _ _ h => h) (by rfl) (by (intro _w hSw; have k0 := hSw.2.1.c0; have k1 := hSw.2.1.c1; have k2 := hSw.2.1.c2; clear hSw; go_simp)) (by assumption) ?_
          simp only [Act.put, List.setIfInBounds_toArray, List.set_cons_zero, List.set_cons_succ]
          refine callV 13 rfl (by kernel_rfl) (by rfl) (fun K hK => ?_)
          go_simp
          refine (refCompare_any y.1 y.2.1 y.2.2 x.1 x.2.1 x.2.2 _ HYZ.out hxz).mono ?_
          rintro e w3 ⟨rfl, hb3⟩
          have HB3_1 := Lib.hid (HBD1.out.trans (hb3.mono HBD1.out.size))
          rw [HO1.out]
          refine hK.out _ _ (CsV.next hHeld hb3) (fun hHeld2 => ?_)
          have HY1 := Lib.hid hHeld2.1
          have HX1 := Lib.hid hHeld2.2.1
          clear hK K hHeld hb3
          try simp only [Act.put, List.setIfInBounds_toArray, List.set_cons_zero, List.set_cons_succ]
          refine takeV 14 (some 27) ((.bool true)) rfl rfl (by kernel_rfl) (by kernel_rfl) (by kernel_rfl) (fun _ _ _ h => h) (by rfl) (by (intro _w _hSw; (try dsimp only at _hSw); go_simp)) (by assumption) ?_
          simp only [Act.put, List.setIfInBounds_toArray, List.set_cons_zero, List.set_cons_succ]
          refine takeV 15 (some 28) ((.bool true)) rfl rfl (by kernel_rfl) (by kernel_rfl) (by kernel_rfl) (fun _ _ _ h => h) (by rfl) (by (intro _w _hSw; (try dsimp only at _hSw); go_simp)) (by assumption) ?_
          simp only [Act.put, List.setIfInBounds_toArray, List.set_cons_zero, List.set_cons_succ]
          refine wpAnyH_done (by kernel_rfl) ?_ _
          clear HY1 HX1 HYA1 HXA1 HSD1
          go_wp2
          go_roundg g2
          case measure => omega
          case rel => exact ⟨a + 1, by go_num, by omega, HB3_1.out, HB3_1.out.size⟩
        | zero =>
          obtain rfl : a = P := by omega
          by_cases hPc : a < acc.length
          · have ham : (a : Int) < (acc.length : Int) := by omega
            have hOO := HEN.out acc[a] (List.getElem?_eq_getElem hPc)
            have HYZ := Lib.hid (HAZ.out _ (List.getElem_mem hPc))
            have hye0 : acc[a]? = some acc[a] := List.getElem?_eq_getElem hPc
            obtain ⟨bA, oA, rfl, hbl, hpa⟩ := (HSA.out.next HBi.out (Nat.le_refl _)).at_ hPc
            obtain ⟨y, hye⟩ : ∃ y, acc[a] = y := ⟨_, rfl⟩
            rw [hye] at hpa hOO HYZ hye0
            have HYE := Lib.hid hye0
            have HBB : Hid (bA < wo.heap.size ∧ b < wo.heap.size) := by show _ ∧ _; omega
            have HYA1 := Lib.hid hpa
            have HXA1 := Lib.hid (HP.out.next HBi.out (by omega))
            obtain ⟨O, hO⟩ : ∃ O, ordV y.1 y.2.1 y.2.2 x.1 x.2.1 x.2.2 = O := ⟨_, rfl⟩
            have hOl : ¬ O < 0 := by rw [← hO]; exact Int.not_lt.2 hOO
            have hOT : VOrd.ordT y x = O := hO
            have HOT := Lib.hid hOT
            have HO1 := Lib.hid hO
            clear hpa hye hye0 hOO hO hOT
            have HSD1 : Hid (CsV wi.heap.size bA (oA + a * 3) b (q + j * 3) y x wi.drew) := ⟨HYA1.out.drew, HXA1.out.drew, by have := HBB.out; omega, Nat.le_refl _⟩
            obtain ⟨wd1, hwd1⟩ : ∃ wd, wi.drew = wd := ⟨_, rfl⟩
            have HBD1 : Hid (Below wo.heap.size wo wd1) := by rw [← hwd1]; exact HBi.out.drew
            rw [hwd1] at HSD1
            go_wp2_with fail
            refine wp_region_held_drew (S := CsV wi.heap.size bA (oA + a * 3) b (q + j * 3) y x) (by kernel_rfl) (by rw [hwd1]; exact HSD1.out) (fun hHeld => ?_)
            rw [hwd1] at hHeld ⊢
            clear hwd1
            refine takeV 0 (some 13) ((.int .i64 a)) rfl rfl (by kernel_rfl) (by kernel_rfl) (by kernel_rfl) (fun _ _ _ h => h) (by rfl) (by (intro _w _hSw; (try dsimp only at _hSw); go_simp)) (by assumption) ?_
            simp only [Act.put, List.setIfInBounds_toArray, List.set_cons_zero, List.set_cons_succ]
            refine takeV 1 (some 14) ((.slice (some ⟨bA, oA, none⟩) acc.length c1)) rfl rfl (by kernel_rfl) (by kernel_rfl) (by kernel_rfl) (fun _ _ _ h => h) (by rfl) (by (intro _w _hSw; (try dsimp only at _hSw); go_simp)) (by assumption) ?_
            simp only [Act.put, List.setIfInBounds_toArray, List.set_cons_zero, List.set_cons_succ]
            refine takeV 2 (some 15) ((.int .i64 acc.length)) rfl rfl (by kernel_rfl) (by kernel_rfl) (by kernel_rfl) (fun _ _ _ h => h) (by rfl) (by (intro _w _hSw; (try dsimp only at _hSw); go_simp)) (by assumption) ?_
            simp only [Act.put, List.setIfInBounds_toArray, List.set_cons_zero, List.set_cons_succ]
            refine takeV 3 (some 16) ((.bool true)) rfl rfl (by kernel_rfl) (by kernel_rfl) (by kernel_rfl) (fun _ _ _ h => h) (by rfl) (by (intro _w _hSw; (try dsimp only at _hSw); go_simp)) (by assumption) ?_
            simp only [Act.put, List.setIfInBounds_toArray, List.set_cons_zero, List.set_cons_succ]
            refine takeV 4 (some 17) ((.bool true)) rfl rfl (by kernel_rfl) (by kernel_rfl) (by kernel_rfl) (fun _ _ _ h => h) (by rfl) (by (intro _w _hSw; (try dsimp only at _hSw); go_simp)) (by assumption) ?_
            simp only [Act.put, List.setIfInBounds_toArray, List.set_cons_zero, List.set_cons_succ]
            refine takeV 5 (some 18) ((.slice (some ⟨bA, oA, none⟩) acc.length c1)) rfl rfl (by kernel_rfl) (by kernel_rfl) (by kernel_rfl) (fun _ _ _ h => h) (by rfl) (by (intro _w _hSw; (try dsimp only at _hSw); go_simp)) (by assumption) ?_
            simp only [Act.put, List.setIfInBounds_toArray, List.set_cons_zero, List.set_cons_succ]
            refine takeV 6 (some 19) ((.int .i64 a)) rfl rfl (by kernel_rfl) (by kernel_rfl) (by kernel_rfl) (fun _ _ _ h => h) (by rfl) (by (intro _w _hSw; (try dsimp only at _hSw); go_simp)) (by assumption) ?_
            simp only [Act.put, List.setIfInBounds_toArray, List.set_cons_zero, List.set_cons_succ]
            refine takeV 7 (some 20) ((.pointer (some ⟨bA, oA + a * 3, none⟩))) rfl rfl (by kernel_rfl) (by kernel_rfl) (by kernel_rfl) (fun _ _ _ h => h) (by rfl) (by (intro _w _hSw; (try dsimp only at _hSw); go_simp)) (by assumption) ?_
            simp only [Act.put, List.setIfInBounds_toArray, List.set_cons_zero, List.set_cons_succ]
            refine takeV 8 (some 21) ((.agg #[.int .i64 y.1, .int .i64 y.2.1, .string y.2.2])) rfl rfl (by kernel_rfl) (by kernel_rfl) (by kernel_rfl) (fun _ _ _ h => h) (by rfl) (by (intro _w hSw; have k0 := hSw.1.c0; have k1 := hSw.1.c1; have k2 := hSw.1.c2; clear hSw; go_simp)) (by assumption) ?_
            simp only [Act.put, List.setIfInBounds_toArray, List.set_cons_zero, List.set_cons_succ]
            refine takeV 9 (some 22) ((.slice (some ⟨b, q, none⟩) l.length c)) rfl rfl (by kernel_rfl) (by kernel_rfl) (by kernel_rfl) (fun _ _ _ h => h) (by rfl) (by (intro _w _hSw; (try dsimp only at _hSw); go_simp)) (by assumption) ?_
            simp only [Act.put, List.setIfInBounds_toArray, List.set_cons_zero, List.set_cons_succ]
            refine takeV 10 (some 23) ((.int .i64 j)) rfl rfl (by kernel_rfl) (by kernel_rfl) (by kernel_rfl) (fun _ _ _ h => h) (by rfl) (by (intro _w _hSw; (try dsimp only at _hSw); go_simp)) (by assumption) ?_
            simp only [Act.put, List.setIfInBounds_toArray, List.set_cons_zero, List.set_cons_succ]
            refine takeV 11 (some 24) ((.pointer (some ⟨b, q + j * 3, none⟩))) rfl rfl (by kernel_rfl) (by kernel_rfl) (by kernel_rfl) (fun _ _ _ h => h) (by rfl) (by (intro _w _hSw; (try dsimp only at _hSw); go_simp)) (by assumption) ?_
            simp only [Act.put, List.setIfInBounds_toArray, List.set_cons_zero, List.set_cons_succ]
            refine takeV 12 (some 25) ((.agg #[.int .i64 x.1, .int .i64 x.2.1, .string x.2.2])) rfl rfl (by kernel_rfl) (by kernel_rfl) (by kernel_rfl) (fun _ _ _ h => h) (by rfl) (by (intro _w hSw; have k0 := hSw.2.1.c0; have k1 := hSw.2.1.c1; have k2 := hSw.2.1.c2; clear hSw; go_simp)) (by assumption) ?_
            simp only [Act.put, List.setIfInBounds_toArray, List.set_cons_zero, List.set_cons_succ]
            refine callV 13 rfl (by kernel_rfl) (by rfl) (fun K hK => ?_)
            go_simp
            refine (refCompare_any y.1 y.2.1 y.2.2 x.1 x.2.1 x.2.2 _ HYZ.out hxz).mono ?_
            rintro e w3 ⟨rfl, hb3⟩
            have HB3_1 := Lib.hid (HBD1.out.trans (hb3.mono HBD1.out.size))
            rw [HO1.out]
            refine hK.out _ _ (CsV.next hHeld hb3) (fun hHeld2 => ?_)
            have HY1 := Lib.hid hHeld2.1
            have HX1 := Lib.hid hHeld2.2.1
            clear hK K hHeld hb3
            try simp only [Act.put, List.setIfInBounds_toArray, List.set_cons_zero, List.set_cons_succ]
            refine takeV 14 (some 27) ((.bool false)) rfl rfl (by kernel_rfl) (by kernel_rfl) (by kernel_rfl) (fun _ _ _ h => h) (by rfl) (by (intro _w _hSw; (try dsimp only at _hSw); go_simp)) (by assumption) ?_
            simp only [Act.put, List.setIfInBounds_toArray, List.set_cons_zero, List.set_cons_succ]
            refine takeV 15 (some 28) ((.bool false)) rfl rfl (by kernel_rfl) (by kernel_rfl) (by kernel_rfl) (fun _ _ _ h => h) (by rfl) (by (intro _w _hSw; (try dsimp only at _hSw); go_simp)) (by assumption) ?_
            simp only [Act.put, List.setIfInBounds_toArray, List.set_cons_zero, List.set_cons_succ]
            refine wpAnyH_done (by kernel_rfl) ?_ _
            have HYA1 := HY1
            have HXA1 := HX1
            have HBi := HB3_1
            have hszi := HB3_1.out.size
            clear HY1 HX1 HSD1 HBD1
            by_cases h0 : O = 0
            · have hOe : (O == 0) = true := by rw [h0]; rfl
              have HE : Hid (putsG VOrd.ordT (l.take (j + 1)) = acc) := HPT.out.trans (HOLD.out y HYE.out (by rw [HOT.out, h0]))
              clear h0
              have HSD1 : Hid (CsV w3.heap.size bA (oA + a * 3) b (q + j * 3) y x w3.drew) := ⟨HYA1.out.drew, HXA1.out.drew, by have := HBB.out; omega, Nat.le_refl _⟩
              obtain ⟨wd1, hwd1⟩ : ∃ wd, w3.drew = wd := ⟨_, rfl⟩
              have HBD1 : Hid (Below wo.heap.size wo wd1) := by rw [← hwd1]; exact HBi.out.drew
              rw [hwd1] at HSD1
              go_wp2_with fail
              refine wp_region_held_drew (S := CsV w3.heap.size bA (oA + a * 3) b (q + j * 3) y x) (by kernel_rfl) (by rw [hwd1]; exact HSD1.out) (fun hHeld => ?_)
              rw [hwd1] at hHeld ⊢
              clear hwd1
              refine takeV 0 (some 31) ((.int .i64 a)) rfl rfl (by kernel_rfl) (by kernel_rfl) (by kernel_rfl) (fun _ _ _ h => h) (by rfl) (by (intro _w _hSw; (try dsimp only at _hSw); go_simp)) (by assumption) ?_
              simp only [Act.put, List.setIfInBounds_toArray, List.set_cons_zero, List.set_cons_succ]
              refine takeV 1 (some 32) ((.slice (some ⟨bA, oA, none⟩) acc.length c1)) rfl rfl (by kernel_rfl) (by kernel_rfl) (by kernel_rfl) (fun _ _ _ h => h) (by rfl) (by (intro _w _hSw; (try dsimp only at _hSw); go_simp)) (by assumption) ?_
              simp only [Act.put, List.setIfInBounds_toArray, List.set_cons_zero, List.set_cons_succ]
              refine takeV 2 (some 33) ((.int .i64 acc.length)) rfl rfl (by kernel_rfl) (by kernel_rfl) (by kernel_rfl) (fun _ _ _ h => h) (by rfl) (by (intro _w _hSw; (try dsimp only at _hSw); go_simp)) (by assumption) ?_
              simp only [Act.put, List.setIfInBounds_toArray, List.set_cons_zero, List.set_cons_succ]
              refine takeV 3 (some 34) ((.bool true)) rfl rfl (by kernel_rfl) (by kernel_rfl) (by kernel_rfl) (fun _ _ _ h => h) (by rfl) (by (intro _w _hSw; (try dsimp only at _hSw); go_simp)) (by assumption) ?_
              simp only [Act.put, List.setIfInBounds_toArray, List.set_cons_zero, List.set_cons_succ]
              refine takeV 4 (some 35) ((.bool true)) rfl rfl (by kernel_rfl) (by kernel_rfl) (by kernel_rfl) (fun _ _ _ h => h) (by rfl) (by (intro _w _hSw; (try dsimp only at _hSw); go_simp)) (by assumption) ?_
              simp only [Act.put, List.setIfInBounds_toArray, List.set_cons_zero, List.set_cons_succ]
              refine takeV 5 (some 36) ((.slice (some ⟨bA, oA, none⟩) acc.length c1)) rfl rfl (by kernel_rfl) (by kernel_rfl) (by kernel_rfl) (fun _ _ _ h => h) (by rfl) (by (intro _w _hSw; (try dsimp only at _hSw); go_simp)) (by assumption) ?_
              simp only [Act.put, List.setIfInBounds_toArray, List.set_cons_zero, List.set_cons_succ]
              refine takeV 6 (some 37) ((.int .i64 a)) rfl rfl (by kernel_rfl) (by kernel_rfl) (by kernel_rfl) (fun _ _ _ h => h) (by rfl) (by (intro _w _hSw; (try dsimp only at _hSw); go_simp)) (by assumption) ?_
              simp only [Act.put, List.setIfInBounds_toArray, List.set_cons_zero, List.set_cons_succ]
              refine takeV 7 (some 38) ((.pointer (some ⟨bA, oA + a * 3, none⟩))) rfl rfl (by kernel_rfl) (by kernel_rfl) (by kernel_rfl) (fun _ _ _ h => h) (by rfl) (by (intro _w _hSw; (try dsimp only at _hSw); go_simp)) (by assumption) ?_
              simp only [Act.put, List.setIfInBounds_toArray, List.set_cons_zero, List.set_cons_succ]
              refine takeV 8 (some 39) ((.agg #[.int .i64 y.1, .int .i64 y.2.1, .string y.2.2])) rfl rfl (by kernel_rfl) (by kernel_rfl) (by kernel_rfl) (fun _ _ _ h => h) (by rfl) (by (intro _w hSw; have k0 := hSw.1.c0; have k1 := hSw.1.c1; have k2 := hSw.1.c2; clear hSw; go_simp)) (by assumption) ?_
              simp only [Act.put, List.setIfInBounds_toArray, List.set_cons_zero, List.set_cons_succ]
              refine takeV 9 (some 40) ((.slice (some ⟨b, q, none⟩) l.length c)) rfl rfl (by kernel_rfl) (by kernel_rfl) (by kernel_rfl) (fun _ _ _ h => h) (by rfl) (by (intro _w _hSw; (try dsimp only at _hSw); go_simp)) (by assumption) ?_
              simp only [Act.put, List.setIfInBounds_toArray, List.set_cons_zero, List.set_cons_succ]
              refine takeV 10 (some 41) ((.int .i64 j)) rfl rfl (by kernel_rfl) (by kernel_rfl) (by kernel_rfl) (fun _ _ _ h => h) (by rfl) (by (intro _w _hSw; (try dsimp only at _hSw); go_simp)) (by assumption) ?_
              simp only [Act.put, List.setIfInBounds_toArray, List.set_cons_zero, List.set_cons_succ]
              refine takeV 11 (some 42) ((.pointer (some ⟨b, q + j * 3, none⟩))) rfl rfl (by kernel_rfl) (by kernel_rfl) (by kernel_rfl) (fun _ _ _ h => h) (by rfl) (by (intro _w _hSw; (try dsimp only at _hSw); go_simp)) (by assumption) ?_
              simp only [Act.put, List.setIfInBounds_toArray, List.set_cons_zero, List.set_cons_succ]
              refine takeV 12 (some 43) ((.agg #[.int .i64 x.1, .int .i64 x.2.1, .string x.2.2])) rfl rfl (by kernel_rfl) (by kernel_rfl) (by kernel_rfl) (fun _ _ _ h => h) (by rfl) (by (intro _w hSw; have k0 := hSw.2.1.c0; have k1 := hSw.2.1.c1; have k2 := hSw.2.1.c2; clear hSw; go_simp)) (by assumption) ?_
              simp only [Act.put, List.setIfInBounds_toArray, List.set_cons_zero, List.set_cons_succ]
              refine callV 13 rfl (by kernel_rfl) (by rfl) (fun K hK => ?_)
              go_simp
              refine (refCompare_any y.1 y.2.1 y.2.2 x.1 x.2.1 x.2.2 _ HYZ.out hxz).mono ?_
              rintro e wq ⟨rfl, hb3⟩
              have HB3_1 := Lib.hid (HBD1.out.trans (hb3.mono HBD1.out.size))
              rw [HO1.out]
              refine hK.out _ _ (CsV.next hHeld hb3) (fun hHeld2 => ?_)
              have HY1 := Lib.hid hHeld2.1
              have HX1 := Lib.hid hHeld2.2.1
              clear hK K hHeld hb3
              try simp only [Act.put, List.setIfInBounds_toArray, List.set_cons_zero, List.set_cons_succ]
              refine takeV 14 (some 45) ((.bool true)) rfl rfl (by kernel_rfl) (by kernel_rfl) (by kernel_rfl) (fun _ _ _ h => h) (by rfl) (by (intro _w _hSw; (try dsimp only at _hSw); go_simp)) (by assumption) ?_
              simp only [Act.put, List.setIfInBounds_toArray, List.set_cons_zero, List.set_cons_succ]
              refine takeV 15 (some 46) ((.bool true)) rfl rfl (by kernel_rfl) (by kernel_rfl) (by kernel_rfl) (fun _ _ _ h => h) (by rfl) (by (intro _w _hSw; (try dsimp only at _hSw); go_simp)) (by assumption) ?_
              simp only [Act.put, List.setIfInBounds_toArray, List.set_cons_zero, List.set_cons_succ]
              refine wpAnyH_done (by kernel_rfl) ?_ _
              have hB := HB3_1.out
              clear HY1 HX1 HYA1 HXA1 HSD1
              go_wp2
              go_roundg g
              case measure => omega
              case rel => exact ⟨j + 1, acc, HO.out.next hB, by go_num, by omega, by omega, HE.out.symm, HB.out.trans (hB.mono hsz), by have := hB.size; omega⟩
            · have hOe : (O == 0) = false := beq_eq_false_iff_ne.2 h0
              have HNX : Hid (putsG VOrd.ordT (l.take (j + 1)) = acc.take a ++ x :: acc.drop a) := HPT.out.trans (HNEW.out fun y' hy' => by rw [HYE.out] at hy'; rw [← Option.some.inj hy', HOT.out]; exact h0)
              clear h0
              have HSD1 : Hid (CsV w3.heap.size bA (oA + a * 3) b (q + j * 3) y x w3.drew) := ⟨HYA1.out.drew, HXA1.out.drew, by have := HBB.out; omega, Nat.le_refl _⟩
              obtain ⟨wd1, hwd1⟩ : ∃ wd, w3.drew = wd := ⟨_, rfl⟩
              have HBD1 : Hid (Below wo.heap.size wo wd1) := by rw [← hwd1]; exact HBi.out.drew
              rw [hwd1] at HSD1
              go_wp2_with fail
              refine wp_region_held_drew (S := CsV w3.heap.size bA (oA + a * 3) b (q + j * 3) y x) (by kernel_rfl) (by rw [hwd1]; exact HSD1.out) (fun hHeld => ?_)
              rw [hwd1] at hHeld ⊢
              clear hwd1
              refine takeV 0 (some 31) ((.int .i64 a)) rfl rfl (by kernel_rfl) (by kernel_rfl) (by kernel_rfl) (fun _ _ _ h => h) (by rfl) (by (intro _w _hSw; (try dsimp only at _hSw); go_simp)) (by assumption) ?_
              simp only [Act.put, List.setIfInBounds_toArray, List.set_cons_zero, List.set_cons_succ]
              refine takeV 1 (some 32) ((.slice (some ⟨bA, oA, none⟩) acc.length c1)) rfl rfl (by kernel_rfl) (by kernel_rfl) (by kernel_rfl) (fun _ _ _ h => h) (by rfl) (by (intro _w _hSw; (try dsimp only at _hSw); go_simp)) (by assumption) ?_
              simp only [Act.put, List.setIfInBounds_toArray, List.set_cons_zero, List.set_cons_succ]
              refine takeV 2 (some 33) ((.int .i64 acc.length)) rfl rfl (by kernel_rfl) (by kernel_rfl) (by kernel_rfl) (fun _ _ _ h => h) (by rfl) (by (intro _w _hSw; (try dsimp only at _hSw); go_simp)) (by assumption) ?_
              simp only [Act.put, List.setIfInBounds_toArray, List.set_cons_zero, List.set_cons_succ]
              refine takeV 3 (some 34) ((.bool true)) rfl rfl (by kernel_rfl) (by kernel_rfl) (by kernel_rfl) (fun _ _ _ h => h) (by rfl) (by (intro _w _hSw; (try dsimp only at _hSw); go_simp)) (by assumption) ?_
              simp only [Act.put, List.setIfInBounds_toArray, List.set_cons_zero, List.set_cons_succ]
              refine takeV 4 (some 35) ((.bool true)) rfl rfl (by kernel_rfl) (by kernel_rfl) (by kernel_rfl) (fun _ _ _ h => h) (by rfl) (by (intro _w _hSw; (try dsimp only at _hSw); go_simp)) (by assumption) ?_
              simp only [Act.put, List.setIfInBounds_toArray, List.set_cons_zero, List.set_cons_succ]
              refine takeV 5 (some 36) ((.slice (some ⟨bA, oA, none⟩) acc.length c1)) rfl rfl (by kernel_rfl) (by kernel_rfl) (by kernel_rfl) (fun _ _ _ h => h) (by rfl) (by (intro _w _hSw; (try dsimp only at _hSw); go_simp)) (by assumption) ?_
              simp only [Act.put, List.setIfInBounds_toArray, List.set_cons_zero, List.set_cons_succ]
              refine takeV 6 (some 37) ((.int .i64 a)) rfl rfl (by kernel_rfl) (by kernel_rfl) (by kernel_rfl) (fun _ _ _ h => h) (by rfl) (by (intro _w _hSw; (try dsimp only at _hSw); go_simp)) (by assumption) ?_
              simp only [Act.put, List.setIfInBounds_toArray, List.set_cons_zero, List.set_cons_succ]
              refine takeV 7 (some 38) ((.pointer (some ⟨bA, oA + a * 3, none⟩))) rfl rfl (by kernel_rfl) (by kernel_rfl) (by kernel_rfl) (fun _ _ _ h => h) (by rfl) (by (intro _w _hSw; (try dsimp only at _hSw); go_simp)) (by assumption) ?_
              simp only [Act.put, List.setIfInBounds_toArray, List.set_cons_zero, List.set_cons_succ]
              refine takeV 8 (some 39) ((.agg #[.int .i64 y.1, .int .i64 y.2.1, .string y.2.2])) rfl rfl (by kernel_rfl) (by kernel_rfl) (by kernel_rfl) (fun _ _ _ h => h) (by rfl) (by (intro _w hSw; have k0 := hSw.1.c0; have k1 := hSw.1.c1; have k2 := hSw.1.c2; clear hSw; go_simp)) (by assumption) ?_
              simp only [Act.put, List.setIfInBounds_toArray, List.set_cons_zero, List.set_cons_succ]
              refine takeV 9 (some 40) ((.slice (some ⟨b, q, none⟩) l.length c)) rfl rfl (by kernel_rfl) (by kernel_rfl) (by kernel_rfl) (fun _ _ _ h => h) (by rfl) (by (intro _w _hSw; (try dsimp only at _hSw); go_simp)) (by assumption) ?_
              simp only [Act.put, List.setIfInBounds_toArray, List.set_cons_zero, List.set_cons_succ]
              refine takeV 10 (some 41) ((.int .i64 j)) rfl rfl (by kernel_rfl) (by kernel_rfl) (by kernel_rfl) (fun _ _ _ h => h) (by rfl) (by (intro _w _hSw; (try dsimp only at _hSw); go_simp)) (by assumption) ?_
              simp only [Act.put, List.setIfInBounds_toArray, List.set_cons_zero, List.set_cons_succ]
              refine takeV 11 (some 42) ((.pointer (some ⟨b, q + j * 3, none⟩))) rfl rfl (by kernel_rfl) (by kernel_rfl) (by kernel_rfl) (fun _ _ _ h => h) (by rfl) (by (intro _w _hSw; (try dsimp only at _hSw); go_simp)) (by assumption) ?_
              simp only [Act.put, List.setIfInBounds_toArray, List.set_cons_zero, List.set_cons_succ]
              refine takeV 12 (some 43) ((.agg #[.int .i64 x.1, .int .i64 x.2.1, .string x.2.2])) rfl rfl (by kernel_rfl) (by kernel_rfl) (by kernel_rfl) (fun _ _ _ h => h) (by rfl) (by (intro _w hSw; have k0 := hSw.2.1.c0; have k1 := hSw.2.1.c1; have k2 := hSw.2.1.c2; clear hSw; go_simp)) (by assumption) ?_
              simp only [Act.put, List.setIfInBounds_toArray, List.set_cons_zero, List.set_cons_succ]
              refine callV 13 rfl (by kernel_rfl) (by rfl) (fun K hK => ?_)
              go_simp
              refine (refCompare_any y.1 y.2.1 y.2.2 x.1 x.2.1 x.2.2 _ HYZ.out hxz).mono ?_
              rintro e wq ⟨rfl, hb3⟩
              have HB3_1 := Lib.hid (HBD1.out.trans (hb3.mono HBD1.out.size))
              rw [HO1.out]
              refine hK.out _ _ (CsV.next hHeld hb3) (fun hHeld2 => ?_)
              have HY1 := Lib.hid hHeld2.1
              have HX1 := Lib.hid hHeld2.2.1
              clear hK K hHeld hb3
              try simp only [Act.put, List.setIfInBounds_toArray, List.set_cons_zero, List.set_cons_succ]
              refine takeV 14 (some 45) ((.bool false)) rfl rfl (by kernel_rfl) (by kernel_rfl) (by kernel_rfl) (fun _ _ _ h => h) (by rfl) (by (intro _w _hSw; (try dsimp only at _hSw); go_simp)) (by assumption) ?_
              simp only [Act.put, List.setIfInBounds_toArray, List.set_cons_zero, List.set_cons_succ]
              refine takeV 15 (some 46) ((.bool false)) rfl rfl (by kernel_rfl) (by kernel_rfl) (by kernel_rfl) (fun _ _ _ h => h) (by rfl) (by (intro _w _hSw; (try dsimp only at _hSw); go_simp)) (by assumption) ?_
              simp only [Act.put, List.setIfInBounds_toArray, List.set_cons_zero, List.set_cons_succ]
              refine wpAnyH_done (by kernel_rfl) ?_ _
              have HSQ : Hid (SlV wq wq.heap.size (some ⟨bA, oA, none⟩) acc) := (HSA.out.next HB3_1.out (Nat.le_refl _)).more HB3_1.out.size
              have HPQ := HX1
              have HBQ : Hid (Below w.heap.size w wq) := HB.out.trans (HB3_1.out.mono hsz)
              have hbq : b < wq.heap.size := by have := HBB.out; have := HB3_1.out.size; omega
              have haa : a ≤ acc.length := by omega
              clear HY1 HX1 HYA1 HXA1 HSD1
              have hT := fun w => sliceV_to (some (⟨bA, oA, none⟩ : Addr)) acc.length c1 a (by omega) w
              have hF := fun w => sliceV_from (some (⟨bA, oA, none⟩ : Addr)) acc.length c1 a haa hl1 w
              have HL0 : Hid (OwnV wq wq.heap.size (.slice none 0 0) []) := World.ownsRow_nil _ _ _ _
              have HT1 : Hid ((acc.take a).length = a) := List.length_take_of_le haa
              have HT2 : Hid ((acc.drop a).length = acc.length - a) := List.length_drop
              have HT3 : Hid ((acc.take a ++ [x]).length = a + 1) := by show _ = _; rw [List.length_append, HT1.out]; rfl
              have HN1a : Hid ((some (⟨bA, oA, none⟩ : Addr)) = none → a = 0 ∧ c1 = 0) := fun h => by have := HN1.out h; omega
              have HN2a : Hid (cutV (some (⟨bA, oA, none⟩ : Addr)) c1 a = none → acc.length - a = 0 ∧ c1 - a = 0) := fun h => by have := HN1.out (cutV_none h); omega
              have HW1 := Lib.hid (HSQ.out.take a).news
              have HNL : Hid (((acc.take a ++ [x]) ++ acc.drop a).length ≤ j + 1) := by
                show _ ≤ _
                rw [List.length_append, HT3.out, HT2.out]; omega
              have tok1 : True := trivial
              have tok2 : True := trivial
              go_wp2_with (first | (at_builtin; have _t := tok1; refine wpList_append_any rfl _ _ 22 rfl wq.heap.size 24 i0 (.agg #[.int .i64 0, .int .i64 0, .string ⟨#[]⟩]) 3 32 Try.underlying22 hi hz0 hz1 hz2 rfl (by decide) _ _ _ rfl HL0.out (some (⟨bA, oA, none⟩ : Addr)) a c1 ((acc.take a).flatMap cellsV) rfl (by rw [flatV_len, HT1.out]) HN1a.out HW1.out (cellsV_all _) (by rw [List.length_nil]; omega) (by rw [List.length_nil]; omega) (Nat.le_refl _) ?_; intro v1 w3 hown hgrow; have HV1 : Hid (OwnV w3 wq.heap.size v1 (acc.take a)) := ownV_of (a := []) hown; have HB3 := Lib.hid (below_ownV HL0.out hgrow (Nat.le_refl _)); have hpx := HPQ.out.next HB3.out hbq; have p0 := hpx.c0; have p1 := hpx.c1; have p2 := hpx.c2; have HV1a : Hid (OwnV (w3.alloc (.cells #[.int .i64 x.1, .int .i64 x.2.1, .string x.2.2] 24)) wq.heap.size v1 (acc.take a)) := World.ownsRow.alloc HV1.out _; have HB3a := Lib.hid (HB3.out.alloc HB3.out.size (.cells #[.int .i64 x.1, .int .i64 x.2.1, .string x.2.2] 24)); have HLC := Lib.hid (litV w3 x); clear hown hgrow hpx tok1) | (at_builtin; have _t := tok2; refine wpList_append_any rfl _ _ 22 rfl wq.heap.size 24 i0 (.agg #[.int .i64 0, .int .i64 0, .string ⟨#[]⟩]) 3 32 Try.underlying22 hi hz0 hz1 hz2 rfl (by decide) _ _ _ rfl HV1a.out (some ⟨w3.heap.size, 0, none⟩) 1 1 ([x].flatMap cellsV) rfl rfl (fun h => by cases h) HLC.out (cellsV_all _) (by rw [HT1.out]; omega) (by rw [HT1.out]; omega) HB3a.out.size ?_; intro v2 w4 hown hgrow; have HV2 : Hid (OwnV w4 wq.heap.size v2 (acc.take a ++ [x])) := ownV_of hown; have HB4 := Lib.hid (HB3a.out.trans (below_ownV HV1a.out hgrow HB3a.out.size)); have HW2 := Lib.hid ((HSQ.out.drop a hl1).next HB4.out (Nat.le_refl _)).news; clear hown hgrow p0 p1 p2 tok2) | (at_builtin; refine wpList_append_any rfl _ _ 22 rfl wq.heap.size 24 i0 (.agg #[.int .i64 0, .int .i64 0, .string ⟨#[]⟩]) 3 32 Try.underlying22 hi hz0 hz1 hz2 rfl (by decide) _ _ _ rfl HV2.out (cutV (some (⟨bA, oA, none⟩ : Addr)) c1 a) (acc.length - a) (c1 - a) ((acc.drop a).flatMap cellsV) rfl (by rw [flatV_len, HT2.out]) HN2a.out HW2.out (cellsV_all _) (by rw [HT3.out]; omega) (by rw [HT3.out]; omega) HB4.out.size ?_; intro v3 w5 hown hgrow; have HV3 : Hid (OwnV w5 wq.heap.size v3 ((acc.take a ++ [x]) ++ acc.drop a)) := ownV_of hown; have HB5 := Lib.hid (HB4.out.trans (below_ownV HV2.out hgrow HB4.out.size)); clear hown hgrow))
              go_roundg g
              case measure => omega
              case rel => exact ⟨j + 1, (acc.take a ++ [x]) ++ acc.drop a, HV3.out.low (by have := HBQ.out.size; omega), by go_num, by omega, HNL.out, (by show _ = _; rw [HNX.out, List.append_assoc, List.singleton_append]), HBQ.out.trans (HB5.out.mono HBQ.out.size), by have := HB5.out.size; have := HBQ.out.size; omega⟩
          · have ham : ¬ (a : Int) < (acc.length : Int) := by omega
            have haa : a ≤ acc.length := by omega
            have HNX : Hid (putsG VOrd.ordT (l.take (j + 1)) = acc.take a ++ x :: acc.drop a) := HPT.out.trans (HNEW.out fun y' hy' => absurd (List.getElem?_eq_some_iff.1 hy').1 hPc)
            obtain ⟨wd1, hwd1⟩ : ∃ wd, wi.drew = wd := ⟨_, rfl⟩
            have HBD1 : Hid (Below wo.heap.size wo wd1) := by rw [← hwd1]; exact HBi.out.drew
            go_wp2_with fail
            refine wp_region_held_drew (S := fun _ => True) (by kernel_rfl) trivial (fun hHeld => ?_)
            rw [hwd1]
            clear hwd1
            refine takeV 0 (some 13) ((.int .i64 a)) rfl rfl (by kernel_rfl) (by kernel_rfl) (by kernel_rfl) (fun _ _ _ h => h) (by rfl) (by (intro _w _hSw; (try dsimp only at _hSw); go_simp)) (by assumption) ?_
            simp only [Act.put, List.setIfInBounds_toArray, List.set_cons_zero, List.set_cons_succ]
            refine takeV 1 (some 14) ((.slice A1 acc.length c1)) rfl rfl (by kernel_rfl) (by kernel_rfl) (by kernel_rfl) (fun _ _ _ h => h) (by rfl) (by (intro _w _hSw; (try dsimp only at _hSw); go_simp)) (by assumption) ?_
            simp only [Act.put, List.setIfInBounds_toArray, List.set_cons_zero, List.set_cons_succ]
            refine takeV 2 (some 15) ((.int .i64 acc.length)) rfl rfl (by kernel_rfl) (by kernel_rfl) (by kernel_rfl) (fun _ _ _ h => h) (by rfl) (by (intro _w _hSw; (try dsimp only at _hSw); go_simp)) (by assumption) ?_
            simp only [Act.put, List.setIfInBounds_toArray, List.set_cons_zero, List.set_cons_succ]
            refine takeV 3 (some 16) ((.bool false)) rfl rfl (by kernel_rfl) (by kernel_rfl) (by kernel_rfl) (fun _ _ _ h => h) (by rfl) (by (intro _w _hSw; (try dsimp only at _hSw); go_simp)) (by assumption) ?_
            simp only [Act.put, List.setIfInBounds_toArray, List.set_cons_zero, List.set_cons_succ]
            refine takeV 4 (some 17) ((.bool false)) rfl rfl (by kernel_rfl) (by kernel_rfl) (by kernel_rfl) (fun _ _ _ h => h) (by rfl) (by (intro _w _hSw; (try dsimp only at _hSw); go_simp)) (by assumption) ?_
            simp only [Act.put, List.setIfInBounds_toArray, List.set_cons_zero, List.set_cons_succ]
            refine skipV 5 (some 18) rfl rfl (by kernel_rfl) (by kernel_rfl) (by kernel_rfl) (fun _ _ _ h => h) (by rfl) (by assumption) ?_
            simp only [Act.put, List.setIfInBounds_toArray, List.set_cons_zero, List.set_cons_succ]
            refine skipV 6 (some 19) rfl rfl (by kernel_rfl) (by kernel_rfl) (by kernel_rfl) (fun _ _ _ h => h) (by rfl) (by assumption) ?_
            simp only [Act.put, List.setIfInBounds_toArray, List.set_cons_zero, List.set_cons_succ]
            refine skipV 7 (some 20) rfl rfl (by kernel_rfl) (by kernel_rfl) (by kernel_rfl) (fun _ _ _ h => h) (by rfl) (by assumption) ?_
            simp only [Act.put, List.setIfInBounds_toArray, List.set_cons_zero, List.set_cons_succ]
            refine skipV 8 (some 21) rfl rfl (by kernel_rfl) (by kernel_rfl) (by kernel_rfl) (fun _ _ _ h => h) (by rfl) (by assumption) ?_
            simp only [Act.put, List.setIfInBounds_toArray, List.set_cons_zero, List.set_cons_succ]
            refine skipV 9 (some 22) rfl rfl (by kernel_rfl) (by kernel_rfl) (by kernel_rfl) (fun _ _ _ h => h) (by rfl) (by assumption) ?_
            simp only [Act.put, List.setIfInBounds_toArray, List.set_cons_zero, List.set_cons_succ]
            refine skipV 10 (some 23) rfl rfl (by kernel_rfl) (by kernel_rfl) (by kernel_rfl) (fun _ _ _ h => h) (by rfl) (by assumption) ?_
            simp only [Act.put, List.setIfInBounds_toArray, List.set_cons_zero, List.set_cons_succ]
            refine skipV 11 (some 24) rfl rfl (by kernel_rfl) (by kernel_rfl) (by kernel_rfl) (fun _ _ _ h => h) (by rfl) (by assumption) ?_
            simp only [Act.put, List.setIfInBounds_toArray, List.set_cons_zero, List.set_cons_succ]
            refine skipV 12 (some 25) rfl rfl (by kernel_rfl) (by kernel_rfl) (by kernel_rfl) (fun _ _ _ h => h) (by rfl) (by assumption) ?_
            simp only [Act.put, List.setIfInBounds_toArray, List.set_cons_zero, List.set_cons_succ]
            refine skipV 13 (some 26) rfl rfl (by kernel_rfl) (by kernel_rfl) (by kernel_rfl) (fun _ _ _ h => h) (by rfl) (by assumption) ?_
            simp only [Act.put, List.setIfInBounds_toArray, List.set_cons_zero, List.set_cons_succ]
            refine skipV 14 (some 27) rfl rfl (by kernel_rfl) (by kernel_rfl) (by kernel_rfl) (fun _ _ _ h => h) (by rfl) (by assumption) ?_
            simp only [Act.put, List.setIfInBounds_toArray, List.set_cons_zero, List.set_cons_succ]
            refine takeV 15 (some 28) ((.bool false)) rfl rfl (by kernel_rfl) (by kernel_rfl) (by kernel_rfl) (fun _ _ _ h => h) (by rfl) (by (intro _w _hSw; (try dsimp only at _hSw); go_simp)) (by assumption) ?_
            simp only [Act.put, List.setIfInBounds_toArray, List.set_cons_zero, List.set_cons_succ]
            refine wpAnyH_done (by kernel_rfl) ?_ _
            obtain ⟨wq, hwq⟩ : ∃ wd, wd1.drew = wd := ⟨_, rfl⟩
            have HBD2 : Hid (Below wo.heap.size wo wq) := by rw [← hwq]; exact HBD1.out.drew
            go_wp2_with fail
            refine wp_region_held_drew (S := fun _ => True) (by kernel_rfl) trivial (fun hHeld => ?_)
            rw [hwq]
            clear hwq
            refine takeV 0 (some 31) ((.int .i64 a)) rfl rfl (by kernel_rfl) (by kernel_rfl) (by kernel_rfl) (fun _ _ _ h => h) (by rfl) (by (intro _w _hSw; (try dsimp only at _hSw); go_simp)) (by assumption) ?_
            simp only [Act.put, List.setIfInBounds_toArray, List.set_cons_zero, List.set_cons_succ]
            refine takeV 1 (some 32) ((.slice A1 acc.length c1)) rfl rfl (by kernel_rfl) (by kernel_rfl) (by kernel_rfl) (fun _ _ _ h => h) (by rfl) (by (intro _w _hSw; (try dsimp only at _hSw); go_simp)) (by assumption) ?_
            simp only [Act.put, List.setIfInBounds_toArray, List.set_cons_zero, List.set_cons_succ]
            refine takeV 2 (some 33) ((.int .i64 acc.length)) rfl rfl (by kernel_rfl) (by kernel_rfl) (by kernel_rfl) (fun _ _ _ h => h) (by rfl) (by (intro _w _hSw; (try dsimp only at _hSw); go_simp)) (by assumption) ?_
            simp only [Act.put, List.setIfInBounds_toArray, List.set_cons_zero, List.set_cons_succ]
            refine takeV 3 (some 34) ((.bool false)) rfl rfl (by kernel_rfl) (by kernel_rfl) (by kernel_rfl) (fun _ _ _ h => h) (by rfl) (by (intro _w _hSw; (try dsimp only at _hSw); go_simp)) (by assumption) ?_
            simp only [Act.put, List.setIfInBounds_toArray, List.set_cons_zero, List.set_cons_succ]
            refine takeV 4 (some 35) ((.bool false)) rfl rfl (by kernel_rfl) (by kernel_rfl) (by kernel_rfl) (fun _ _ _ h => h) (by rfl) (by (intro _w _hSw; (try dsimp only at _hSw); go_simp)) (by assumption) ?_
            simp only [Act.put, List.setIfInBounds_toArray, List.set_cons_zero, List.set_cons_succ]
            refine skipV 5 (some 36) rfl rfl (by kernel_rfl) (by kernel_rfl) (by kernel_rfl) (fun _ _ _ h => h) (by rfl) (by assumption) ?_
            simp only [Act.put, List.setIfInBounds_toArray, List.set_cons_zero, List.set_cons_succ]
            refine skipV 6 (some 37) rfl rfl (by kernel_rfl) (by kernel_rfl) (by kernel_rfl) (fun _ _ _ h => h) (by rfl) (by assumption) ?_
            simp only [Act.put, List.setIfInBounds_toArray, List.set_cons_zero, List.set_cons_succ]
            refine skipV 7 (some 38) rfl rfl (by kernel_rfl) (by kernel_rfl) (by kernel_rfl) (fun _ _ _ h => h) (by rfl) (by assumption) ?_
            simp only [Act.put, List.setIfInBounds_toArray, List.set_cons_zero, List.set_cons_succ]
            refine skipV 8 (some 39) rfl rfl (by kernel_rfl) (by kernel_rfl) (by kernel_rfl) (fun _ _ _ h => h) (by rfl) (by assumption) ?_
            simp only [Act.put, List.setIfInBounds_toArray, List.set_cons_zero, List.set_cons_succ]
            refine skipV 9 (some 40) rfl rfl (by kernel_rfl) (by kernel_rfl) (by kernel_rfl) (fun _ _ _ h => h) (by rfl) (by assumption) ?_
            simp only [Act.put, List.setIfInBounds_toArray, List.set_cons_zero, List.set_cons_succ]
            refine skipV 10 (some 41) rfl rfl (by kernel_rfl) (by kernel_rfl) (by kernel_rfl) (fun _ _ _ h => h) (by rfl) (by assumption) ?_
            simp only [Act.put, List.setIfInBounds_toArray, List.set_cons_zero, List.set_cons_succ]
            refine skipV 11 (some 42) rfl rfl (by kernel_rfl) (by kernel_rfl) (by kernel_rfl) (fun _ _ _ h => h) (by rfl) (by assumption) ?_
            simp only [Act.put, List.setIfInBounds_toArray, List.set_cons_zero, List.set_cons_succ]
            refine skipV 12 (some 43) rfl rfl (by kernel_rfl) (by kernel_rfl) (by kernel_rfl) (fun _ _ _ h => h) (by rfl) (by assumption) ?_
            simp only [Act.put, List.setIfInBounds_toArray, List.set_cons_zero, List.set_cons_succ]
            refine skipV 13 (some 44) rfl rfl (by kernel_rfl) (by kernel_rfl) (by kernel_rfl) (fun _ _ _ h => h) (by rfl) (by assumption) ?_
            simp only [Act.put, List.setIfInBounds_toArray, List.set_cons_zero, List.set_cons_succ]
            refine skipV 14 (some 45) rfl rfl (by kernel_rfl) (by kernel_rfl) (by kernel_rfl) (fun _ _ _ h => h) (by rfl) (by assumption) ?_
            simp only [Act.put, List.setIfInBounds_toArray, List.set_cons_zero, List.set_cons_succ]
            refine takeV 15 (some 46) ((.bool false)) rfl rfl (by kernel_rfl) (by kernel_rfl) (by kernel_rfl) (fun _ _ _ h => h) (by rfl) (by (intro _w _hSw; (try dsimp only at _hSw); go_simp)) (by assumption) ?_
            simp only [Act.put, List.setIfInBounds_toArray, List.set_cons_zero, List.set_cons_succ]
            refine wpAnyH_done (by kernel_rfl) ?_ _
            have HSQ : Hid (SlV wq wq.heap.size A1 acc) := (HSA.out.next HBD2.out (Nat.le_refl _)).more HBD2.out.size
            have HPQ := Lib.hid (HP.out.next HBD2.out (by omega))
            have HBQ : Hid (Below w.heap.size w wq) := HB.out.trans (HBD2.out.mono hsz)
            have hbq : b < wq.heap.size := by have := HBD2.out.size; omega
            have hT := fun w => sliceV_to A1 acc.length c1 a (by omega) w
            have hF := fun w => sliceV_from A1 acc.length c1 a haa hl1 w
            have HL0 : Hid (OwnV wq wq.heap.size (.slice none 0 0) []) := World.ownsRow_nil _ _ _ _
            have HT1 : Hid ((acc.take a).length = a) := List.length_take_of_le haa
            have HT2 : Hid ((acc.drop a).length = acc.length - a) := List.length_drop
            have HT3 : Hid ((acc.take a ++ [x]).length = a + 1) := by show _ = _; rw [List.length_append, HT1.out]; rfl
            have HN1a : Hid (A1 = none → a = 0 ∧ c1 = 0) := fun h => by have := HN1.out h; omega
            have HN2a : Hid (cutV A1 c1 a = none → acc.length - a = 0 ∧ c1 - a = 0) := fun h => by have := HN1.out (cutV_none h); omega
            have HW1 := Lib.hid (HSQ.out.take a).news
            have HNL : Hid (((acc.take a ++ [x]) ++ acc.drop a).length ≤ j + 1) := by
              show _ ≤ _
              rw [List.length_append, HT3.out, HT2.out]; omega
            have tok1 : True := trivial
            have tok2 : True := trivial
            go_wp2_with (first | (at_builtin; have _t := tok1; refine wpList_append_any rfl _ _ 22 rfl wq.heap.size 24 i0 (.agg #[.int .i64 0, .int .i64 0, .string ⟨#[]⟩]) 3 32 Try.underlying22 hi hz0 hz1 hz2 rfl (by decide) _ _ _ rfl HL0.out A1 a c1 ((acc.take a).flatMap cellsV) rfl (by rw [flatV_len, HT1.out]) HN1a.out HW1.out (cellsV_all _) (by rw [List.length_nil]; omega) (by rw [List.length_nil]; omega) (Nat.le_refl _) ?_; intro v1 w3 hown hgrow; have HV1 : Hid (OwnV w3 wq.heap.size v1 (acc.take a)) := ownV_of (a := []) hown; have HB3 := Lib.hid (below_ownV HL0.out hgrow (Nat.le_refl _)); have hpx := HPQ.out.next HB3.out hbq; have p0 := hpx.c0; have p1 := hpx.c1; have p2 := hpx.c2; have HV1a : Hid (OwnV (w3.alloc (.cells #[.int .i64 x.1, .int .i64 x.2.1, .string x.2.2] 24)) wq.heap.size v1 (acc.take a)) := World.ownsRow.alloc HV1.out _; have HB3a := Lib.hid (HB3.out.alloc HB3.out.size (.cells #[.int .i64 x.1, .int .i64 x.2.1, .string x.2.2] 24)); have HLC := Lib.hid (litV w3 x); clear hown hgrow hpx tok1) | (at_builtin; have _t := tok2; refine wpList_append_any rfl _ _ 22 rfl wq.heap.size 24 i0 (.agg #[.int .i64 0, .int .i64 0, .string ⟨#[]⟩]) 3 32 Try.underlying22 hi hz0 hz1 hz2 rfl (by decide) _ _ _ rfl HV1a.out (some ⟨w3.heap.size, 0, none⟩) 1 1 ([x].flatMap cellsV) rfl rfl (fun h => by cases h) HLC.out (cellsV_all _) (by rw [HT1.out]; omega) (by rw [HT1.out]; omega) HB3a.out.size ?_; intro v2 w4 hown hgrow; have HV2 : Hid (OwnV w4 wq.heap.size v2 (acc.take a ++ [x])) := ownV_of hown; have HB4 := Lib.hid (HB3a.out.trans (below_ownV HV1a.out hgrow HB3a.out.size)); have HW2 := Lib.hid ((HSQ.out.drop a hl1).next HB4.out (Nat.le_refl _)).news; clear hown hgrow p0 p1 p2 tok2) | (at_builtin; refine wpList_append_any rfl _ _ 22 rfl wq.heap.size 24 i0 (.agg #[.int .i64 0, .int .i64 0, .string ⟨#[]⟩]) 3 32 Try.underlying22 hi hz0 hz1 hz2 rfl (by decide) _ _ _ rfl HV2.out (cutV A1 c1 a) (acc.length - a) (c1 - a) ((acc.drop a).flatMap cellsV) rfl (by rw [flatV_len, HT2.out]) HN2a.out HW2.out (cellsV_all _) (by rw [HT3.out]; omega) (by rw [HT3.out]; omega) HB4.out.size ?_; intro v3 w5 hown hgrow; have HV3 : Hid (OwnV w5 wq.heap.size v3 ((acc.take a ++ [x]) ++ acc.drop a)) := ownV_of hown; have HB5 := Lib.hid (HB4.out.trans (below_ownV HV2.out hgrow HB4.out.size)); clear hown hgrow))
            go_roundg g
            case measure => omega
            case rel => exact ⟨j + 1, (acc.take a ++ [x]) ++ acc.drop a, HV3.out.low (by have := HBQ.out.size; omega), by go_num, by omega, HNL.out, (by show _ = _; rw [HNX.out, List.append_assoc, List.singleton_append]), HBQ.out.trans (HB5.out.mono HBQ.out.size), by have := HB5.out.size; have := HBQ.out.size; omega⟩
end Go.Proofs.Ytkoknogefmfmnaa
