/-
  THE LAW RowsTurned.
-/
import Derived.BigGuard
import Derived.Test.YtofmfainhflmmaaJZTurnP
namespace Go.Proofs.Ytofmfainhflmmaa
open Go.RowKit

theorem ownR_sl {W : World} {B : Nat} {A : Option Addr} {n c : Nat} {R : List Rw} (h : OwnR W B (.slice A n c) R) : SlR W W.heap.size A R := by
  obtain ⟨A2, c2, e2, hs, _⟩ := h.form
  injection e2 with e2 _ _
  subst e2
  exact hs
set_option maxRecDepth 100000 in
set_option maxHeartbeats 4000000 in
theorem rowsTurnedL_any (A : Option Addr) (c : Nat) (cols : List ByteArray) (A' : Option Addr) (c' : Nat) (R : List Rw) (w : World) (hc : SlC w w.heap.size A cols) (hR : SlR w w.heap.size A' R) (hn : A = none → cols.length = 0 ∧ c = 0) (hn' : A' = none → R.length = 0 ∧ c' = 0) (hlc : cols.length ≤ c) :
    Calls Try.prog 9 #[.slice A cols.length c, .slice A' R.length c'] w fun e w' => e = .returned (.bool true) ∧ Below w.heap.size w w' := by
  have HC := Lib.hid hc
  have HR := Lib.hid hR
  have HN := Lib.hid hn
  have HN' := Lib.hid hn'
  have HAL := Lib.hid (alive_any w)
  clear hc hR hn hn'
  go_enter Try.func9, Try.ntmps9
  go_wp2_with fail
  refine HAL.out.mono ?_
  rintro e w1 ⟨rfl, hb1⟩
  have HB1 := Lib.hid hb1
  have HG := Lib.hid (great_any A cols.length c A' c' R w1 w1.heap.size (HR.out.up hb1 (Nat.le_refl _)))
  clear hb1 HAL
  go_wp2_with fail
  refine HG.out.mono ?_
  rintro e w' ⟨⟨q, rfl, hq⟩, rfl⟩
  cases q with
  | true =>
    go_wp2
    go_ret
    exact ⟨rfl, HB1.out⟩
  | false =>
    have hsm := hq rfl
    have HSM := Lib.hid hsm
    have hl1 := hsm.1
    have hl2 := hsm.2.1
    clear hq hsm HG
    by_cases h70 : 70 < R.length
    · have h70i : (70 : Int) < (R.length : Int) := by omega
      go_wp2
      go_ret
      exact ⟨rfl, HB1.out⟩
    · have h70i : (R.length : Int) ≤ 70 := by omega
      go_wp2_with fail
      go_loopg [6, 7] R.length (fun g x6 x7 wr => x7 = .int .i64 ((g : Int) - 1) ∧ g ≤ R.length ∧ Hid (Own1 46 cellR wr w1.heap.size x6 (twiceR (R.drop g))) ∧ Hid (Below w1.heap.size w1 wr))
      case atStart => exact ⟨rfl, Nat.le_refl _, by rw [List.drop_length]; exact own1_nil _ _ _ _, Below.refl _ _⟩
      case round =>
        obtain ⟨h7, hg, HO, HB⟩ := hrel
        cases gk with
        | zero =>
          have e7 : u7 = .int .i64 (-1) := by rw [h7]; rfl
          subst e7
          rw [List.drop_zero] at HO
          clear h7 hg
          obtain ⟨A7, c7, rfl, hs7, _, _, hn7, _⟩ := HO.out.form
          have hll : ∀ r ∈ R, r.l.length ≤ 1000000000000 := fun r hr => by have := HSM.out.2.2 r hr; omega
          have hbw := HB1.out.trans (HB.out.mono HB1.out.size)
          have HOF := Lib.hid (of_any A c cols A' c' R wr (Sl1.up HC.out hbw (Nat.le_refl _)) (HR.out.up hbw (Nat.le_refl _)) HN.out HN'.out hlc (by omega) (by omega) hll)
          have HBW := Lib.hid hbw
          have HS7 := Lib.hid hs7
          have HN7 := Lib.hid hn7
          obtain ⟨n7, hn7e⟩ : ∃ n, (twiceR R).length = n := ⟨_, rfl⟩
          have HNE := Lib.hid hn7e
          rw [hn7e]
          clear hs7 hn7 hbw hn7e
          go_wp2_with fail
          refine HOF.out.mono ?_
          intro e w2 hof
          obtain ⟨hb2, A5, c5, A6, c6, C5, R6, rfl, hoc, hor, hC5, ht6⟩ := of_own hof
          obtain ⟨E, hE⟩ : ∃ E, ofC cols R = E := ⟨_, rfl⟩
          rw [hE]
          obtain ⟨w3, hw3⟩ : ∃ X, w2.alloc (.cells #[.slice A5 C5.length c5, .slice A6 R6.length c6] 34) = X := ⟨_, rfl⟩
          have hb3 : Below w2.heap.size w2 w3 := by rw [← hw3]; exact (Below.refl _ _).alloc (Nat.le_refl _) _
          have hx3 : w3.cell? ⟨w2.heap.size, 0, none⟩ = some (.slice A5 C5.length c5) ∧ w3.cell? ⟨w2.heap.size, 1, none⟩ = some (.slice A6 R6.length c6) := by rw [← hw3]; exact ⟨by rw [World.cell?_alloc_new]; rfl, by rw [World.cell?_alloc_new]; rfl⟩
          have hz3 : w2.heap.size < w3.heap.size := by rw [← hw3]; simp
          have hb23 := hb2.trans (hb3.mono hb2.size)
          have HB3 := Lib.hid (HBW.out.trans (hb23.mono HBW.out.size))
          have hoc3 := owns_next hoc hb3
          have hor3 := hor.next hb3
          have HOG := Lib.hid (of_any A c cols A7 c7 (twiceR R) w3 (Sl1.up HC.out HB3.out (Nat.le_refl _)) ⟨Sl1.up HS7.out hb23 (Nat.le_refl _), fun r hr => (HR.out.r r (twice_mem.1 hr)).up HB3.out (Nat.le_refl _)⟩ HN.out HN7.out hlc (by omega) (by rw [twice_len]; omega) (fun r hr => hll r (twice_mem.1 hr)))
          rw [HNE.out] at HOG
          have HF := Lib.hid (And.intro hoc3 (And.intro hor3 (And.intro hC5 (And.intro ht6 (And.intro hx3.1 (And.intro hx3.2 hz3))))))
          have HE := Lib.hid hE
          clear hof hb2 hoc hor hC5 ht6 hb3 hx3 hz3 hb23 hoc3 hor3 HOF hE hll
          go_wp2_with fail
          try rw [hw3]
          refine HOG.out.mono ?_
          intro e w4 hof
          obtain ⟨hb4, A9, c9, A10, c10, C9, R10, rfl, hoc, hor, hC9, ht10⟩ := of_own hof
          rw [ofC_twice, HE.out]
          rw [ofC_twice] at hC9 ht10
          obtain ⟨w5, hw5⟩ : ∃ X, w4.alloc (.cells #[.slice A9 C9.length c9, .slice A10 R10.length c10] 34) = X := ⟨_, rfl⟩
          have hb5 : Below w4.heap.size w4 w5 := by rw [← hw5]; exact (Below.refl _ _).alloc (Nat.le_refl _) _
          have hx5 : w5.cell? ⟨w4.heap.size, 0, none⟩ = some (.slice A9 C9.length c9) ∧ w5.cell? ⟨w4.heap.size, 1, none⟩ = some (.slice A10 R10.length c10) := by rw [← hw5]; exact ⟨by rw [World.cell?_alloc_new]; rfl, by rw [World.cell?_alloc_new]; rfl⟩
          have hb35 := hb4.trans (hb5.mono hb4.size)
          have HB5 := Lib.hid (HB3.out.trans (hb35.mono HB3.out.size))
          have HG5 := Lib.hid (And.intro (owns_next HF.out.1 hb35) (And.intro (HF.out.2.1.next hb35) (And.intro ((hb35.cell (p := ⟨w2.heap.size, 0, none⟩) HF.out.2.2.2.2.2.2).trans HF.out.2.2.2.2.1) (And.intro ((hb35.cell (p := ⟨w2.heap.size, 1, none⟩) HF.out.2.2.2.2.2.2).trans HF.out.2.2.2.2.2.1) (Nat.lt_of_lt_of_le HF.out.2.2.2.2.2.2 hb35.size)))))
          have hC59 : C5 = C9 := HF.out.2.2.1.trans hC9.symm
          subst hC59
          have ht : txR R6 = txR R10 := by rw [ht10, puts_twice]; exact HF.out.2.2.2.1
          have hcl : C5.length ≤ 60 := by rw [hC9]; split <;> first | omega | simp
          have hrl6 : R6.length ≤ 150 := by
            have := putsG_len (o := ordR) (txR R)
            rw [txR_len] at this
            rw [← txR_len, HF.out.2.2.2.1]
            split
            · omega
            · simp
          have hrl10 : R10.length = R6.length := by rw [← txR_len, ← ht, txR_len]
          have HSA := Lib.hid (sameL_any A5 A6 A9 A10 c5 c6 c9 c10 C5 C5 R6 R10 w5 (own_sl HG5.out.1) (own_sl (owns_next hoc hb5)) (ownR_sl HG5.out.2.1) (ownR_sl (hor.next hb5)) (by omega) (by omega) (by omega) (by omega))
          rw [ht, sameB_yes] at HSA
          obtain ⟨y0, y1, y2⟩ := HG5.out.2.2
          obtain ⟨x0, x1⟩ := hx5
          clear hof hb4 hoc hor hC9 ht10 hb5 hb35 HOG hw3 ht hrl10
          go_wp2_with fail
          try rw [hw5]
          refine HSA.out.mono ?_
          rintro e w6 ⟨rfl, hb6⟩
          have HB6 := Lib.hid (HB5.out.trans (hb6.mono HB5.out.size))
          have HWB : Hid (w.heap.size ≤ wr.heap.size) := HBW.out.size
          have HG6 := Lib.hid (And.intro (owns_next HG5.out.1 hb6) (And.intro ((HG5.out.2.1.next hb6).low HWB.out) (And.intro ((hb6.cell (p := ⟨w2.heap.size, 0, none⟩) y2).trans y0) (And.intro ((hb6.cell (p := ⟨w2.heap.size, 1, none⟩) y2).trans y1) (Nat.lt_of_lt_of_le y2 hb6.size)))))
          have HC5 := Lib.hid HF.out.2.2.1
          have HT6 := Lib.hid HF.out.2.2.2.1
          have HRL6 := Lib.hid hrl6
          clear hb6 x0 x1 y0 y1 y2 HSA HG5 HB5 hw5 HF hrl6 hcl
          go_wp2_with fail
          go_loopg [69] R.length (fun g x69 wr => ∃ j : Nat, x69 = .int .i64 j ∧ j + g = R.length ∧ Hid (Below w6.heap.size w6 wr))
          case atStart => exact ⟨0, rfl, by omega, Below.refl _ _⟩
          case round =>
            obtain ⟨j, rfl, hj, HB⟩ := hrel
            have hz8 : w2.heap.size < wr.heap.size := Nat.lt_of_lt_of_le HG6.out.2.2.2.2 HB.out.size
            cases gk with
            | zero =>
              have hji : ¬ (j : Int) < (R.length : Int) := by omega
              go_wp2_with fail
              go_loopg [13] (R6.length + 1) (fun g x13 wr => ∃ j : Nat, x13 = .int .i64 j ∧ 1 ≤ j ∧ R6.length + 1 - j ≤ g ∧ j ≤ R6.length + 1 ∧ Hid (Below w6.heap.size w6 wr))
              case atStart => exact ⟨1, rfl, Nat.le_refl _, by omega, by omega, HB.out⟩
              case round =>
                clear HB hz8 hji hj
                obtain ⟨i, rfl, hi1, hi2, hi3, HB⟩ := hrel
                have z1 := (HB.out.cell (p := ⟨w2.heap.size, 1, none⟩) HG6.out.2.2.2.2).trans HG6.out.2.2.2.1
                by_cases hil : i < R6.length
                · have hii : (i : Int) < (R6.length : Int) := by omega
                  have hr6 := HRL6.out
                  have hw1 : IntKind.i64.wrap ((i : Int) - 1) = ((i - 1 : Nat) : Int) := by
                    rw [show ((i - 1 : Nat) : Int) = (i : Int) - 1 from by omega]; exact IntWalk.i64_in _ (by omega)
                  have hi0 : i - 1 < R6.length := by omega
                  obtain ⟨e1, o1, x, hA1, hlt1, hx, p3, hokx⟩ := (ownR_sl HG6.out.2.1).at_ hi0
                  obtain ⟨e2, o2, y, hA2, hlt2, hy, p4, hoky⟩ := (ownR_sl HG6.out.2.1).at_ hil
                  subst hA1
                  injection hA2 with hA2
                  injection hA2 with ha hb
                  subst ha hb
                  have p3 : _ = some (cellR x) := p3
                  have p4 : _ = some (cellR y) := p4
                  have hneg : ordR x.l y.l = -1 := by
                    have hx2 : (txR R6)[i - 1]? = some x.l := txR_at hx
                    have hy2 : (txR R6)[i - 1 + 1]? = some y.l := by rw [show i - 1 + 1 = i by omega]; exact txR_at hy
                    have hups : Ups ordR (txR R6) := by
                      rw [HT6.out]
                      split
                      · exact puts_facts.1
                      · exact List.Pairwise.nil
                    exact ups_neg hups hx2 hy2
                  have HCM := Lib.hid (fun X (hX : Below w6.heap.size w6 X) => cmpR_any x y X (hokx.up hX (Nat.le_refl _)) (hoky.up hX (Nat.le_refl _)))
                  rw [hneg] at HCM
                  obtain ⟨xA, xn, xc, hcx⟩ : ∃ a n c, cellR x = .slice a n c := ⟨_, _, _, rfl⟩
                  obtain ⟨yA, yn, yc, hcy⟩ : ∃ a n c, cellR y = .slice a n c := ⟨_, _, _, rfl⟩
                  rw [hcx] at p3 HCM
                  rw [hcy] at p4 HCM
                  have HX := Lib.hid (And.intro hlt1 (And.intro p3 p4))
                  clear hx hy hcx hcy hneg hokx hoky p3 p4 hlt2 hr6
                  go_wp2_with fail
                  obtain ⟨wd, hwd⟩ : ∃ wd, wr.drew = wd := ⟨_, rfl⟩
                  have HBD : Hid (Below w6.heap.size w6 wd) := by show Below _ _ _; rw [← hwd]; exact HB.out.drew
                  refine wp_region_held_drew (S := fun X => Below w6.heap.size w6 X) (by kernel_rfl) (by rw [hwd]; exact HBD.out) (fun hHeld => ?_)
                  rw [hwd] at hHeld ⊢
                  clear hwd z1
                  refine takeV 0 (some 91) ((.pointer (some ⟨w2.heap.size, 1, none⟩))) rfl rfl (by kernel_rfl) (by kernel_rfl) (by kernel_rfl) (fun _ _ _ h => h) (by rfl) (by (intro _w _hSw; (try dsimp only at _hSw); go_simp)) (by assumption) ?_
                  simp only [Act.put, List.setIfInBounds_toArray, List.set_cons_zero, List.set_cons_succ]
                  refine takeV 1 (some 92) ((.slice (some ⟨e1, o1, none⟩) R6.length c6)) rfl rfl (by kernel_rfl) (by kernel_rfl) (by kernel_rfl) (fun _ _ _ h => h) (by rfl) (by (intro _w hSw; have k1 := (hSw.cell (p := ⟨w2.heap.size, 1, none⟩) HG6.out.2.2.2.2).trans HG6.out.2.2.2.1; clear hSw; go_simp)) (by assumption) ?_
                  simp only [Act.put, List.setIfInBounds_toArray, List.set_cons_zero, List.set_cons_succ]
                  refine takeV 2 (some 93) ((.int .i64 (i : Int))) rfl rfl (by kernel_rfl) (by kernel_rfl) (by kernel_rfl) (fun _ _ _ h => h) (by rfl) (by (intro _w _hSw; (try dsimp only at _hSw); go_simp)) (by assumption) ?_
                  simp only [Act.put, List.setIfInBounds_toArray, List.set_cons_zero, List.set_cons_succ]
                  refine takeV 3 (some 94) ((.int .i64 ((i - 1 : Nat) : Int))) rfl rfl (by kernel_rfl) (by kernel_rfl) (by kernel_rfl) (fun _ _ _ h => h) (by rfl) (by (intro _w _hSw; (try dsimp only at _hSw); go_simp)) (by assumption) ?_
                  simp only [Act.put, List.setIfInBounds_toArray, List.set_cons_zero, List.set_cons_succ]
                  refine takeV 4 (some 95) ((.pointer (some ⟨e1, o1 + (i - 1), none⟩))) rfl rfl (by kernel_rfl) (by kernel_rfl) (by kernel_rfl) (fun _ _ _ h => h) (by rfl) (by (intro _w _hSw; (try dsimp only at _hSw); go_simp)) (by assumption) ?_
                  simp only [Act.put, List.setIfInBounds_toArray, List.set_cons_zero, List.set_cons_succ]
                  refine takeV 5 (some 96) ((.slice xA xn xc)) rfl rfl (by kernel_rfl) (by kernel_rfl) (by kernel_rfl) (fun _ _ _ h => h) (by rfl) (by (intro _w hSw; have k0 := (hSw.cell (p := ⟨e1, o1 + (i - 1), none⟩) HX.out.1).trans HX.out.2.1; clear hSw; go_simp)) (by assumption) ?_
                  simp only [Act.put, List.setIfInBounds_toArray, List.set_cons_zero, List.set_cons_succ]
                  refine takeV 6 (some 97) ((.pointer (some ⟨w2.heap.size, 1, none⟩))) rfl rfl (by kernel_rfl) (by kernel_rfl) (by kernel_rfl) (fun _ _ _ h => h) (by rfl) (by (intro _w _hSw; (try dsimp only at _hSw); go_simp)) (by assumption) ?_
                  simp only [Act.put, List.setIfInBounds_toArray, List.set_cons_zero, List.set_cons_succ]
                  refine takeV 7 (some 98) ((.slice (some ⟨e1, o1, none⟩) R6.length c6)) rfl rfl (by kernel_rfl) (by kernel_rfl) (by kernel_rfl) (fun _ _ _ h => h) (by rfl) (by (intro _w hSw; have k1 := (hSw.cell (p := ⟨w2.heap.size, 1, none⟩) HG6.out.2.2.2.2).trans HG6.out.2.2.2.1; clear hSw; go_simp)) (by assumption) ?_
                  simp only [Act.put, List.setIfInBounds_toArray, List.set_cons_zero, List.set_cons_succ]
                  refine takeV 8 (some 99) ((.int .i64 (i : Int))) rfl rfl (by kernel_rfl) (by kernel_rfl) (by kernel_rfl) (fun _ _ _ h => h) (by rfl) (by (intro _w _hSw; (try dsimp only at _hSw); go_simp)) (by assumption) ?_
                  simp only [Act.put, List.setIfInBounds_toArray, List.set_cons_zero, List.set_cons_succ]
                  refine takeV 9 (some 100) ((.pointer (some ⟨e1, o1 + i, none⟩))) rfl rfl (by kernel_rfl) (by kernel_rfl) (by kernel_rfl) (fun _ _ _ h => h) (by rfl) (by (intro _w _hSw; (try dsimp only at _hSw); go_simp)) (by assumption) ?_
                  simp only [Act.put, List.setIfInBounds_toArray, List.set_cons_zero, List.set_cons_succ]
                  refine takeV 10 (some 101) ((.slice yA yn yc)) rfl rfl (by kernel_rfl) (by kernel_rfl) (by kernel_rfl) (fun _ _ _ h => h) (by rfl) (by (intro _w hSw; have k0 := (hSw.cell (p := ⟨e1, o1 + i, none⟩) HX.out.1).trans HX.out.2.2; clear hSw; go_simp)) (by assumption) ?_
                  simp only [Act.put, List.setIfInBounds_toArray, List.set_cons_zero, List.set_cons_succ]
                  have HCW := Lib.hid (HCM.out wd HBD.out)
                  refine callV 11 rfl (by kernel_rfl) (by rfl) (fun K hK => ?_)
                  go_simp
                  refine HCW.out.mono ?_
                  rintro e Y ⟨rfl, hbY⟩
                  have HBY := Lib.hid (HBD.out.trans (hbY.mono HBD.out.size))
                  refine hK.out _ _ HBY.out (fun hHeldY => ?_)
                  clear hK K hHeld hbY HCW
                  try simp only [Act.put, List.setIfInBounds_toArray, List.set_cons_zero, List.set_cons_succ]
                  refine takeV 12 (some 103) ((.bool false)) rfl rfl (by kernel_rfl) (by kernel_rfl) (by kernel_rfl) (fun _ _ _ h => h) (by rfl) (by (intro _w _hSw; (try dsimp only at _hSw); go_simp)) (by assumption) ?_
                  simp only [Act.put, List.setIfInBounds_toArray, List.set_cons_zero, List.set_cons_succ]
                  refine wpAnyH_done (by kernel_rfl) ?_ _
                  clear hHeldY
                  have hw2 : IntKind.i64.wrap ((i : Int) + 1) = ((i + 1 : Nat) : Int) := by
                    rw [show ((i + 1 : Nat) : Int) = (i : Int) + 1 from by omega]; exact IntWalk.i64_in _ (by have := HRL6.out; omega)
                  go_wp2
                  go_roundg (gk - 1)
                  case measure => omega
                  case rel =>
                    have hr6 := HRL6.out
                    exact ⟨i + 1, rfl, by omega, by omega, by omega, HBY.out⟩
                · have hii : ¬ (i : Int) < (R6.length : Int) := by omega
                  have hle : R6.length ≤ R.length := by
                    have := putsG_len (o := ordR) (txR R)
                    rw [txR_len] at this
                    rw [← txR_len, HT6.out]
                    split
                    · exact this
                    · simp
                  have hlei : (R6.length : Int) ≤ (R.length : Int) := by omega
                  clear hle
                  go_wp2
                  go_ret
                  exact ⟨rfl, HB6.out.trans (HB.out.mono HB6.out.size)⟩
            | succ g =>
              have hji : (j : Int) < (R.length : Int) := by omega
              obtain ⟨e1, o1, r, rfl, hlt1, hr, p3, hok⟩ := HR.out.at_ (show j < R.length by omega)
              have p3 : _ = some (cellR r) := p3
              by_cases hE0 : E = 0
              · subst hE0
                have hCC : C5 = cols := by rw [HC5.out, if_pos HE.out]
                subst hCC
                have hT : txR R6 = putsG ordR (txR R) := by rw [HT6.out, if_pos HE.out]
                have hhas := has_of HE.out hT (List.mem_of_getElem? hr)
                obtain ⟨A5', c5', e5, _, hcc5, _⟩ := Own1.form HG6.out.1
                injection e5 with e5a _ e5c
                subst e5a e5c
                obtain ⟨rA, rn, rc, hcr⟩ : ∃ a n c, cellR r = .slice a n c := ⟨_, _, _, rfl⟩
                rw [hcr] at p3
                have HX := Lib.hid (And.intro hlt1 (And.intro p3 (And.intro hok hcr)))
                have HH := Lib.hid (And.intro hhas hcc5)
                clear hr hcr hok hT hhas hcc5 p3
                go_wp2_with fail
                obtain ⟨wd, hwd⟩ : ∃ wd, wr.drew = wd := ⟨_, rfl⟩
                have HBD : Hid (Below w6.heap.size w6 wd) := by show Below _ _ _; rw [← hwd]; exact HB.out.drew
                refine wp_region_held_drew (S := fun X => Below w6.heap.size w6 X) (by kernel_rfl) (by rw [hwd]; exact HBD.out) (fun hHeld => ?_)
                rw [hwd] at hHeld ⊢
                clear hwd
                refine takeV 0 (some 72) ((.int .i64 0)) rfl rfl (by kernel_rfl) (by kernel_rfl) (by kernel_rfl) (fun _ _ _ h => h) (by rfl) (by (intro _w _hSw; (try dsimp only at _hSw); go_simp)) (by assumption) ?_
                simp only [Act.put, List.setIfInBounds_toArray, List.set_cons_zero, List.set_cons_succ]
                refine takeV 1 (some 73) ((.bool true)) rfl rfl (by kernel_rfl) (by kernel_rfl) (by kernel_rfl) (fun _ _ _ h => h) (by rfl) (by (intro _w _hSw; (try dsimp only at _hSw); go_simp)) (by assumption) ?_
                simp only [Act.put, List.setIfInBounds_toArray, List.set_cons_zero, List.set_cons_succ]
                refine takeV 2 (some 74) ((.bool true)) rfl rfl (by kernel_rfl) (by kernel_rfl) (by kernel_rfl) (fun _ _ _ h => h) (by rfl) (by (intro _w _hSw; (try dsimp only at _hSw); go_simp)) (by assumption) ?_
                simp only [Act.put, List.setIfInBounds_toArray, List.set_cons_zero, List.set_cons_succ]
                refine takeV 3 (some 75) ((.agg #[.slice A5 C5.length c5, .slice A6 R6.length c6])) rfl rfl (by kernel_rfl) (by kernel_rfl) (by kernel_rfl) (fun _ _ _ h => h) (by rfl) (by (intro _w hSw; have k0 := (hSw.cell (p := ⟨w2.heap.size, 0, none⟩) HG6.out.2.2.2.2).trans HG6.out.2.2.1; have k1 := (hSw.cell (p := ⟨w2.heap.size, 1, none⟩) HG6.out.2.2.2.2).trans HG6.out.2.2.2.1; clear hSw; go_simp)) (by assumption) ?_
                simp only [Act.put, List.setIfInBounds_toArray, List.set_cons_zero, List.set_cons_succ]
                refine takeV 4 (some 76) ((.slice (some ⟨e1, o1, none⟩) R.length c')) rfl rfl (by kernel_rfl) (by kernel_rfl) (by kernel_rfl) (fun _ _ _ h => h) (by rfl) (by (intro _w _hSw; (try dsimp only at _hSw); go_simp)) (by assumption) ?_
                simp only [Act.put, List.setIfInBounds_toArray, List.set_cons_zero, List.set_cons_succ]
                refine takeV 5 (some 77) ((.int .i64 (j : Int))) rfl rfl (by kernel_rfl) (by kernel_rfl) (by kernel_rfl) (fun _ _ _ h => h) (by rfl) (by (intro _w _hSw; (try dsimp only at _hSw); go_simp)) (by assumption) ?_
                simp only [Act.put, List.setIfInBounds_toArray, List.set_cons_zero, List.set_cons_succ]
                refine takeV 6 (some 78) ((.pointer (some ⟨e1, o1 + j, none⟩))) rfl rfl (by kernel_rfl) (by kernel_rfl) (by kernel_rfl) (fun _ _ _ h => h) (by rfl) (by (intro _w _hSw; (try dsimp only at _hSw); go_simp)) (by assumption) ?_
                simp only [Act.put, List.setIfInBounds_toArray, List.set_cons_zero, List.set_cons_succ]
                refine takeV 7 (some 79) ((.slice rA rn rc)) rfl rfl (by kernel_rfl) (by kernel_rfl) (by kernel_rfl) (fun _ _ _ h => h) (by rfl) (by (intro _w hSw; have k0 := ((HB6.out.trans (hSw.mono HB6.out.size)).cell (p := ⟨e1, o1 + j, none⟩) HX.out.1).trans HX.out.2.1; clear hSw; go_simp)) (by assumption) ?_
                simp only [Act.put, List.setIfInBounds_toArray, List.set_cons_zero, List.set_cons_succ]
                have HHA := Lib.hid (has_any A5 c5 C5 w.heap.size A6 c6 R6 r wd (Sl1.up (own_sl HG6.out.1) HBD.out (Nat.le_refl _)) (HG6.out.2.1.next HBD.out) (HX.out.2.2.1.next (HB6.out.trans (HBD.out.mono HB6.out.size)) (Nat.le_refl _)) (HB6.out.trans (HBD.out.mono HB6.out.size)).size HH.out.2 (by omega) (by have := HRL6.out; omega))
                rw [HH.out.1, HX.out.2.2.2] at HHA
                refine callV 8 rfl (by kernel_rfl) (by rfl) (fun K hK => ?_)
                go_simp
                refine HHA.out.mono ?_
                rintro e Y ⟨rfl, hbY⟩
                have HBY := Lib.hid (HBD.out.trans (hbY.mono HBD.out.size))
                refine hK.out _ _ HBY.out (fun hHeldY => ?_)
                clear hK K hHeld hbY HHA
                try simp only [Act.put, List.setIfInBounds_toArray, List.set_cons_zero, List.set_cons_succ]
                refine takeV 9 (some 81) ((.bool false)) rfl rfl (by kernel_rfl) (by kernel_rfl) (by kernel_rfl) (fun _ _ _ h => h) (by rfl) (by (intro _w _hSw; (try dsimp only at _hSw); go_simp)) (by assumption) ?_
                simp only [Act.put, List.setIfInBounds_toArray, List.set_cons_zero, List.set_cons_succ]
                refine takeV 10 (some 82) ((.bool false)) rfl rfl (by kernel_rfl) (by kernel_rfl) (by kernel_rfl) (fun _ _ _ h => h) (by rfl) (by (intro _w _hSw; (try dsimp only at _hSw); go_simp)) (by assumption) ?_
                simp only [Act.put, List.setIfInBounds_toArray, List.set_cons_zero, List.set_cons_succ]
                refine wpAnyH_done (by kernel_rfl) ?_ _
                clear hHeldY
                go_wp2
                go_roundg g
                case measure => omega
                case rel => exact ⟨j + 1, by go_num, by omega, HBY.out⟩
              · have hEb : (E == 0) = false := by simpa using hE0
                clear p3 hr hok
                go_wp2_with fail
                obtain ⟨wd, hwd⟩ : ∃ wd, wr.drew = wd := ⟨_, rfl⟩
                have HBD : Hid (Below w6.heap.size w6 wd) := by show Below _ _ _; rw [← hwd]; exact HB.out.drew
                refine wp_region_held_drew (S := fun X => Below w6.heap.size w6 X) (by kernel_rfl) (by rw [hwd]; exact HBD.out) (fun hHeld => ?_)
                rw [hwd] at hHeld ⊢
                clear hwd
                refine takeV 0 (some 72) ((.int .i64 E)) rfl rfl (by kernel_rfl) (by kernel_rfl) (by kernel_rfl) (fun _ _ _ h => h) (by rfl) (by (intro _w _hSw; (try dsimp only at _hSw); go_simp)) (by assumption) ?_
                simp only [Act.put, List.setIfInBounds_toArray, List.set_cons_zero, List.set_cons_succ]
                refine takeV 1 (some 73) ((.bool false)) rfl rfl (by kernel_rfl) (by kernel_rfl) (by kernel_rfl) (fun _ _ _ h => h) (by rfl) (by (intro _w _hSw; (try dsimp only at _hSw); go_simp)) (by assumption) ?_
                simp only [Act.put, List.setIfInBounds_toArray, List.set_cons_zero, List.set_cons_succ]
                refine takeV 2 (some 74) ((.bool false)) rfl rfl (by kernel_rfl) (by kernel_rfl) (by kernel_rfl) (fun _ _ _ h => h) (by rfl) (by (intro _w _hSw; (try dsimp only at _hSw); go_simp)) (by assumption) ?_
                simp only [Act.put, List.setIfInBounds_toArray, List.set_cons_zero, List.set_cons_succ]
                refine skipV 3 (some 75) rfl rfl (by kernel_rfl) (by kernel_rfl) (by kernel_rfl) (fun _ _ _ h => h) (by rfl) (by assumption) ?_
                simp only [Act.put, List.setIfInBounds_toArray, List.set_cons_zero, List.set_cons_succ]
                refine skipV 4 (some 76) rfl rfl (by kernel_rfl) (by kernel_rfl) (by kernel_rfl) (fun _ _ _ h => h) (by rfl) (by assumption) ?_
                simp only [Act.put, List.setIfInBounds_toArray, List.set_cons_zero, List.set_cons_succ]
                refine skipV 5 (some 77) rfl rfl (by kernel_rfl) (by kernel_rfl) (by kernel_rfl) (fun _ _ _ h => h) (by rfl) (by assumption) ?_
                simp only [Act.put, List.setIfInBounds_toArray, List.set_cons_zero, List.set_cons_succ]
                refine skipV 6 (some 78) rfl rfl (by kernel_rfl) (by kernel_rfl) (by kernel_rfl) (fun _ _ _ h => h) (by rfl) (by assumption) ?_
                simp only [Act.put, List.setIfInBounds_toArray, List.set_cons_zero, List.set_cons_succ]
                refine skipV 7 (some 79) rfl rfl (by kernel_rfl) (by kernel_rfl) (by kernel_rfl) (fun _ _ _ h => h) (by rfl) (by assumption) ?_
                simp only [Act.put, List.setIfInBounds_toArray, List.set_cons_zero, List.set_cons_succ]
                refine skipV 8 (some 80) rfl rfl (by kernel_rfl) (by kernel_rfl) (by kernel_rfl) (fun _ _ _ h => h) (by rfl) (by assumption) ?_
                simp only [Act.put, List.setIfInBounds_toArray, List.set_cons_zero, List.set_cons_succ]
                refine skipV 9 (some 81) rfl rfl (by kernel_rfl) (by kernel_rfl) (by kernel_rfl) (fun _ _ _ h => h) (by rfl) (by assumption) ?_
                simp only [Act.put, List.setIfInBounds_toArray, List.set_cons_zero, List.set_cons_succ]
                refine takeV 10 (some 82) ((.bool false)) rfl rfl (by kernel_rfl) (by kernel_rfl) (by kernel_rfl) (fun _ _ _ h => h) (by rfl) (by (intro _w _hSw; (try dsimp only at _hSw); go_simp)) (by assumption) ?_
                simp only [Act.put, List.setIfInBounds_toArray, List.set_cons_zero, List.set_cons_succ]
                refine wpAnyH_done (by kernel_rfl) ?_ _
                clear hHeld
                go_wp2
                go_roundg g
                case measure => omega
                case rel => exact ⟨j + 1, by go_num, by omega, HBD.out⟩
        | succ g =>
          have e7 : u7 = .int .i64 (g : Int) := by rw [h7]; congr 1; omega
          subst e7
          clear h7
          have hgi : (0 : Int) ≤ (g : Int) := by omega
          have hgl : (g : Int) < (R.length : Int) := by omega
          obtain ⟨e1, o1, r, rfl, hlt1, hr, p3, hok⟩ := (HR.out.up HB1.out (Nat.le_refl _)).at_ (show g < R.length by omega)
          obtain ⟨rA, rn, rc, hcr⟩ : ∃ a n c, cellR r = .slice a n c := ⟨_, _, _, rfl⟩
          have p3 : _ = some (cellR r) := p3
          rw [hcr] at p3
          have HX := Lib.hid (And.intro hr (And.intro hcr (And.intro hlt1 p3)))
          clear hr hcr hok
          go_wp2_with fail
          obtain ⟨wd, hwd⟩ : ∃ wd, wr.drew = wd := ⟨_, rfl⟩
          have hbD : Below wr.heap.size wr wd := by rw [← hwd]; exact (Below.refl _ _).drew
          have HBD := Lib.hid (HB.out.trans (hbD.mono HB.out.size))
          have HOD := Lib.hid (HO.out.next hbD)
          refine wp_region_held_drew (S := fun X => Below w1.heap.size w1 X) (by kernel_rfl) (by rw [hwd]; exact HBD.out) (fun hHeld => ?_)
          rw [hwd] at hHeld ⊢
          clear hwd hbD p3
          refine takeV 0 (some 35) ((u6)) rfl rfl (by kernel_rfl) (by kernel_rfl) (by kernel_rfl) (fun _ _ _ h => h) (by rfl) (by (intro _w _hSw; (try dsimp only at _hSw); go_simp)) (by assumption) ?_
          simp only [Act.put, List.setIfInBounds_toArray, List.set_cons_zero, List.set_cons_succ]
          refine takeV 1 (some 36) ((.slice (some ⟨e1, o1, none⟩) R.length c')) rfl rfl (by kernel_rfl) (by kernel_rfl) (by kernel_rfl) (fun _ _ _ h => h) (by rfl) (by (intro _w _hSw; (try dsimp only at _hSw); go_simp)) (by assumption) ?_
          simp only [Act.put, List.setIfInBounds_toArray, List.set_cons_zero, List.set_cons_succ]
          refine takeV 2 (some 37) ((.int .i64 (g : Int))) rfl rfl (by kernel_rfl) (by kernel_rfl) (by kernel_rfl) (fun _ _ _ h => h) (by rfl) (by (intro _w _hSw; (try dsimp only at _hSw); go_simp)) (by assumption) ?_
          simp only [Act.put, List.setIfInBounds_toArray, List.set_cons_zero, List.set_cons_succ]
          refine takeV 3 (some 38) ((.pointer (some ⟨e1, o1 + g, none⟩))) rfl rfl (by kernel_rfl) (by kernel_rfl) (by kernel_rfl) (fun _ _ _ h => h) (by rfl) (by (intro _w _hSw; (try dsimp only at _hSw); go_simp)) (by assumption) ?_
          simp only [Act.put, List.setIfInBounds_toArray, List.set_cons_zero, List.set_cons_succ]
          refine takeV 4 (some 39) ((.slice rA rn rc)) rfl rfl (by kernel_rfl) (by kernel_rfl) (by kernel_rfl) (fun _ _ _ h => h) (by rfl) (by (intro _w hSw; have k0 := (hSw.cell (p := ⟨e1, o1 + g, none⟩) HX.out.2.2.1).trans HX.out.2.2.2; clear hSw; go_simp)) (by assumption) ?_
          simp only [Act.put, List.setIfInBounds_toArray, List.set_cons_zero, List.set_cons_succ]
          refine takeV 5 (some 40) ((.slice (some ⟨e1, o1, none⟩) R.length c')) rfl rfl (by kernel_rfl) (by kernel_rfl) (by kernel_rfl) (fun _ _ _ h => h) (by rfl) (by (intro _w _hSw; (try dsimp only at _hSw); go_simp)) (by assumption) ?_
          simp only [Act.put, List.setIfInBounds_toArray, List.set_cons_zero, List.set_cons_succ]
          refine takeV 6 (some 41) ((.int .i64 (g : Int))) rfl rfl (by kernel_rfl) (by kernel_rfl) (by kernel_rfl) (fun _ _ _ h => h) (by rfl) (by (intro _w _hSw; (try dsimp only at _hSw); go_simp)) (by assumption) ?_
          simp only [Act.put, List.setIfInBounds_toArray, List.set_cons_zero, List.set_cons_succ]
          refine takeV 7 (some 42) ((.pointer (some ⟨e1, o1 + g, none⟩))) rfl rfl (by kernel_rfl) (by kernel_rfl) (by kernel_rfl) (fun _ _ _ h => h) (by rfl) (by (intro _w _hSw; (try dsimp only at _hSw); go_simp)) (by assumption) ?_
          simp only [Act.put, List.setIfInBounds_toArray, List.set_cons_zero, List.set_cons_succ]
          refine takeV 8 (some 43) ((.slice rA rn rc)) rfl rfl (by kernel_rfl) (by kernel_rfl) (by kernel_rfl) (fun _ _ _ h => h) (by rfl) (by (intro _w hSw; have k0 := (hSw.cell (p := ⟨e1, o1 + g, none⟩) HX.out.2.2.1).trans HX.out.2.2.2; clear hSw; go_simp)) (by assumption) ?_
          simp only [Act.put, List.setIfInBounds_toArray, List.set_cons_zero, List.set_cons_succ]
          obtain ⟨w5, hw5⟩ : ∃ X, wd.alloc (.cells #[.slice rA rn rc, .slice rA rn rc] 46) = X := ⟨_, rfl⟩
          have hb5 : Below wd.heap.size wd w5 := by rw [← hw5]; exact (Below.refl _ _).alloc (Nat.le_refl _) _
          have HB5 := Lib.hid (HBD.out.trans (hb5.mono HBD.out.size))
          have HO5 := Lib.hid (HOD.out.next hb5)
          have HC5 : Hid (∀ (j : Nat) r', [r, r][j]? = some r' → w5.cell? ⟨wd.heap.size, j, none⟩ = some (cellR r')) := by
            intro j r' hj
            rw [← hw5, World.cell?_alloc_new]
            match j, hj with
            | 0, hj => simp at hj; subst hj; rw [HX.out.2.1]; rfl
            | 1, hj => simp at hj; subst hj; rw [HX.out.2.1]; rfl
            | j + 2, hj => simp at hj
          refine callV 9 rfl (by kernel_rfl) (by rfl) (fun K hK => ?_)
          go_simp
          try rw [hw5]
          refine hK.out _ _ HB5.out (fun hHeld5 => ?_)
          clear hK K hHeld hw5 hb5
          try simp only [Act.put, List.setIfInBounds_toArray, List.set_cons_zero, List.set_cons_succ]
          refine callV 10 rfl (by kernel_rfl) (by rfl) (fun K hK => ?_)
          refine wp_append_rows (some 45) rfl _ _ rfl w1.heap.size u6 (twiceR (R.drop (g + 1))) rfl HO5.out [r, r] wd.heap.size 2 rfl rfl HC5.out (by rw [twice_len, List.length_drop]; omega) (by decide) HB5.out.size ?_
          intro v6 w6 ho6 hg6
          have HB6 := Lib.hid (HB5.out.trans (below_owns HO5.out hg6 HB5.out.size))
          have HO6 : Hid (Own1 46 cellR w6 w1.heap.size v6 (twiceR (R.drop g))) := by rw [twice_step HX.out.1]; exact ho6
          refine hK.out _ _ HB6.out (fun hHeld6 => ?_)
          clear hK K hHeld5 ho6 hg6
          simp only [Act.put, List.setIfInBounds_toArray, List.set_cons_zero, List.set_cons_succ]
          refine takeV 11 (some 6) ((v6)) rfl rfl (by kernel_rfl) (by kernel_rfl) (by kernel_rfl) (fun _ _ _ h => h) (by rfl) (by (intro _w _hSw; (try dsimp only at _hSw); go_simp)) (by assumption) ?_
          simp only [Act.put, List.setIfInBounds_toArray, List.set_cons_zero, List.set_cons_succ]
          refine wpAnyH_done (by kernel_rfl) ?_ _
          clear hHeld6
          have hw1 : IntKind.i64.wrap ((g : Int) - 1) = (g : Int) - 1 := IntWalk.i64_in _ (by omega)
          go_wp2
          go_roundg g
          case measure => omega
          case rel => exact ⟨rfl, by omega, HO6.out, HB6.out⟩
end Go.Proofs.Ytofmfainhflmmaa
