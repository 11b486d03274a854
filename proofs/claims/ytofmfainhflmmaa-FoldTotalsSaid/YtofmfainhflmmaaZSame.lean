/-
  CONTRACTS: the document's Same; the law's ref, same, great.
-/
import Derived.Test.YtofmfainhflmmaaZPut
import Derived.Test.YtofmfainhflmmaaRegion
import Derived.Deep.LoopGhost
import Derived.Test.YtofmfainhflmmaaZComp
namespace Go.Proofs.Ytofmfainhflmmaa
open Go.RowKit

open Classical in
/-- are two relations the same? -/
noncomputable def sameB (c1 c2 : List ByteArray) (t1 t2 : List (List Vl)) : Bool := decide (c1 = c2 ∧ t1 = t2)
theorem sameB_yes {c : List ByteArray} {t : List (List Vl)} : sameB c c t t = true := by unfold sameB; simp
theorem sameB_no {c1 c2 : List ByteArray} {t1 t2 : List (List Vl)} (h : c1 ≠ c2 ∨ t1 ≠ t2) : sameB c1 c2 t1 t2 = false := by
  unfold sameB
  rw [decide_eq_false_iff_not]
  rintro ⟨h1, h2⟩
  rcases h with h | h
  · exact h h1
  · exact h h2
theorem list_eq_of {α : Type} {a b : List α} (hl : a.length = b.length) (h : ∀ i (h1 : i < a.length) (h2 : i < b.length), a[i] = b[i]) : a = b := List.ext_getElem hl fun i h1 h2 => h i h1 h2

theorem results_c1 {fn : Func} {p : Tmp} {ty : TypeId} (h : fn.results = #[.cell p ty]) (tmps : Array Value) (P : Program) (w : World) :
    (results fn tmps).run P w = ((asAddr (tmps.getD p undef)).run P w).andThen fun a w₁ => (loadVar ty a).run P w₁ := by
  simp only [results, h]
  simp [Sem.run_bind]
set_option maxHeartbeats 1000000 in
theorem ref_any (v0 v1 : Value) (a0 a1 : Option Addr) (n0 n1 k0 k1 : Nat) (h0 : v0 = .slice a0 n0 k0) (h1 : v1 = .slice a1 n1 k1) (w : World) :
    Calls Try.prog 23 #[.agg #[v0, v1]] w fun e w' => e = .returned (.agg #[v0, v1]) ∧ Below w.heap.size w w' := by
  subst h0 h1
  have HB := Lib.hid (((Below.refl w.heap.size w).alloc (Nat.le_refl _) (.cells #[.slice a0 n0 k0, .slice a1 n1 k1] 34)).alloc (by simp) (.cells #[.slice a0 n0 k0, .slice a1 n1 k1] 43))
  go_enter Try.func23, Try.ntmps23
  go_wp2
  refine bodyPost_ret (v := .agg #[.slice a0 n0 k0, .slice a1 n1 k1]) ?_ rfl ⟨rfl, HB.out⟩
  rw [results_c1 rfl]
  go_simp

set_option maxRecDepth 100000 in
set_option maxHeartbeats 4000000 in
theorem sameRel_any (A1 A2 A3 A4 : Option Addr) (c1 c2 c3 c4 : Nat) (l1 l2 : List ByteArray) (R1 R2 : List Rw) (w : World) (hs1 : SlC w w.heap.size A1 l1) (hs2 : SlC w w.heap.size A3 l2) (hr1 : SlR w w.heap.size A2 R1) (hr2 : SlR w w.heap.size A4 R2)
    (_hl1 : l1.length ≤ 1000000000) (hl2 : l2.length ≤ 1000000000) (_hl3 : R1.length ≤ 1000000000) (hl4 : R2.length ≤ 1000000000) :
    Calls Try.prog 17 #[.agg #[.slice A1 l1.length c1, .slice A2 R1.length c2], .agg #[.slice A3 l2.length c3, .slice A4 R2.length c4]] w fun e w' => e = .returned (.bool (sameB l1 l2 (txR R1) (txR R2))) ∧ Below w.heap.size w w' := by
  have HS1 := Lib.hid hs1
  have HS2 := Lib.hid hs2
  have HR1 := Lib.hid hr1
  have HR2 := Lib.hid hr2
  clear hs1 hs2 hr1 hr2
  obtain ⟨wa, hwa⟩ : ∃ wa, w.alloc (.cells #[.slice A1 l1.length c1, .slice A2 R1.length c2] 43) = wa := ⟨_, rfl⟩
  have hza : wa.heap.size = w.heap.size + 1 := by rw [← hwa]; simp
  have hba : Below w.heap.size w wa := by rw [← hwa]; exact (Below.refl _ _).alloc (Nat.le_refl _) _
  have a0 : wa.cell? ⟨w.heap.size, 0, none⟩ = some (.slice A1 l1.length c1) := by rw [← hwa, World.cell?_alloc_new]; rfl
  have a1 : wa.cell? ⟨w.heap.size, 1, none⟩ = some (.slice A2 R1.length c2) := by rw [← hwa, World.cell?_alloc_new]; rfl
  obtain ⟨wb, hwb⟩ : ∃ wb, wa.alloc (.cells #[.slice A3 l2.length c3, .slice A4 R2.length c4] 43) = wb := ⟨_, rfl⟩
  have hzb : wb.heap.size = wa.heap.size + 1 := by rw [← hwb]; simp
  have hbb : Below wa.heap.size wa wb := by rw [← hwb]; exact (Below.refl _ _).alloc (Nat.le_refl _) _
  have b0 : wb.cell? ⟨wa.heap.size, 0, none⟩ = some (.slice A3 l2.length c3) := by rw [← hwb, World.cell?_alloc_new]; rfl
  have b1 : wb.cell? ⟨wa.heap.size, 1, none⟩ = some (.slice A4 R2.length c4) := by rw [← hwb, World.cell?_alloc_new]; rfl
  have hla : w.heap.size < wa.heap.size := by omega
  have hlb : wa.heap.size < wb.heap.size := by omega
  have a0 := (hbb.cell (p := ⟨w.heap.size, 0, none⟩) hla).trans a0
  have a1 := (hbb.cell (p := ⟨w.heap.size, 1, none⟩) hla).trans a1
  have HBB : Hid (Below w.heap.size w wb) := hba.trans (hbb.mono hba.size)
  have HCELL := Lib.hid (show wb.cell? ⟨w.heap.size, 0, none⟩ = some (.slice A1 l1.length c1) ∧ wb.cell? ⟨w.heap.size, 1, none⟩ = some (.slice A2 R1.length c2) ∧ wb.cell? ⟨wa.heap.size, 0, none⟩ = some (.slice A3 l2.length c3) ∧ wb.cell? ⟨wa.heap.size, 1, none⟩ = some (.slice A4 R2.length c4) ∧ w.heap.size < wb.heap.size ∧ wa.heap.size < wb.heap.size from ⟨a0, a1, b0, b1, by omega, by omega⟩)
  clear hza hba hzb hbb hla hlb
  by_cases hlen : l1.length = l2.length ∧ R1.length = R2.length
  · obtain ⟨hle1, hle2⟩ := hlen
    have q1 : ((l1.length : Int) != (l2.length : Int)) = false := by rw [hle1]; simp
    have q2 : ((R1.length : Int) != (R2.length : Int)) = false := by rw [hle2]; simp
    have HLE := Lib.hid (show l1.length = l2.length ∧ R1.length = R2.length from ⟨hle1, hle2⟩)
    clear hle1 hle2
    go_enter Try.func17, Try.ntmps17
    go_wp2
    go_loopg [5] l1.length (fun g x5 wr => ∃ j : Nat, x5 = .int .i64 j ∧ j + g = l1.length ∧ Hid (∀ i (h1 : i < j) (h2 : i < l1.length) (h3 : i < l2.length), l1[i] = l2[i]) ∧ Hid (Below wb.heap.size wb wr))
    case atStart => exact ⟨0, rfl, by omega, fun i h => absurd h (Nat.not_lt_zero _), Below.refl _ _⟩
    case round =>
      obtain ⟨j, rfl, hj, HJ, HB⟩ := hrel
      have a0 := (HB.out.cell (p := ⟨w.heap.size, 0, none⟩) HCELL.out.2.2.2.2.1).trans HCELL.out.1
      have a1 := (HB.out.cell (p := ⟨w.heap.size, 1, none⟩) HCELL.out.2.2.2.2.1).trans HCELL.out.2.1
      have b0 := (HB.out.cell (p := ⟨wa.heap.size, 0, none⟩) HCELL.out.2.2.2.2.2).trans HCELL.out.2.2.1
      have b1 := (HB.out.cell (p := ⟨wa.heap.size, 1, none⟩) HCELL.out.2.2.2.2.2).trans HCELL.out.2.2.2.1
      have HBW : Hid (Below w.heap.size w wr) := HBB.out.trans (HB.out.mono HBB.out.size)
      clear hwa hwb
      cases gk with
      | succ g =>
        have hji : (j : Int) < (l1.length : Int) := by omega
        have hjn : j < l1.length := by omega
        have hjn2 : j < l2.length := by have := HLE.out.1; omega
        obtain ⟨e1, o1, rfl, _, p1⟩ := (HS1.out.next HBW.out (Nat.le_refl _)).at_ hjn
        obtain ⟨e2, o2, rfl, _, p2⟩ := (HS2.out.next HBW.out (Nat.le_refl _)).at_ hjn2
        unfold strV at p1 p2
        by_cases hq : eqS l1[j] l2[j] = true
        · have HE : Hid (∀ i (h1 : i < j + 1) (h2 : i < l1.length) (h3 : i < l2.length), l1[i] = l2[i]) := fun i h1 h2 h3 => by
            by_cases e : i = j
            · subst e; exact eqS_iff.1 hq
            · exact HJ.out i (by omega) h2 h3
          have hq2 : (l1[j].toList == l2[j].toList) = true := hq
          have hq3 : (!(l1[j].toList == l2[j].toList)) = false := by rw [hq2]; rfl
          clear hq
          go_wp2
          go_quiet (fail)
          have HB2 : Hid (Below wb.heap.size wb (wr.drewN nq)) := HB.out.trans (below_drewN _ _)
          go_wp2
          go_roundg g
          case measure => omega
          case rel => exact ⟨j + 1, by go_num, by omega, HE.out, HB2.out⟩
        · rw [Bool.not_eq_true] at hq
          have HE : Hid (sameB l1 l2 (txR R1) (txR R2) = false) := sameB_no (.inl fun e => by
            have := eqS_no.1 hq
            subst e
            exact this rfl)
          have hq2 : (l1[j].toList == l2[j].toList) = false := hq
          have hq3 : (!(l1[j].toList == l2[j].toList)) = true := by rw [hq2]; rfl
          clear hq
          go_wp2
          go_quiet (fail)
          go_wp2
          go_ret
          exact ⟨ret_bool (by rw [HE.out]), HBW.out.trans (below_drewN _ _)⟩
      | zero =>
        have hji : ¬ (j : Int) < (l1.length : Int) := by omega
        have HEC : Hid (l1 = l2) := list_eq_of HLE.out.1 fun i h1 h2 => HJ.out i (by omega) h1 h2
        have HBX := HBW
        obtain ⟨wx, hwx⟩ : ∃ wx, wx = wr := ⟨_, rfl⟩
        subst hwx
        go_wp2
        go_loopg [6] R1.length (fun g x6 wr => ∃ j : Nat, x6 = .int .i64 j ∧ j + g = R1.length ∧ Hid (∀ i (x y : Rw), i < j → R1[i]? = some x → R2[i]? = some y → x.l = y.l) ∧ Hid (Below wb.heap.size wb wr))
        case atStart => exact ⟨0, rfl, by omega, fun i x y h => absurd h (Nat.not_lt_zero _), HB.out⟩
        case round =>
          obtain ⟨k, rfl, hk, HK, HB⟩ := hrel
          have HBZ : Hid (Below w.heap.size w wr) := HBB.out.trans (HB.out.mono HBB.out.size)
          have a0 := (HB.out.cell (p := ⟨w.heap.size, 0, none⟩) HCELL.out.2.2.2.2.1).trans HCELL.out.1
          have a1 := (HB.out.cell (p := ⟨w.heap.size, 1, none⟩) HCELL.out.2.2.2.2.1).trans HCELL.out.2.1
          have b0 := (HB.out.cell (p := ⟨wa.heap.size, 0, none⟩) HCELL.out.2.2.2.2.2).trans HCELL.out.2.2.1
          have b1 := (HB.out.cell (p := ⟨wa.heap.size, 1, none⟩) HCELL.out.2.2.2.2.2).trans HCELL.out.2.2.2.1
          cases gk with
          | succ g =>
            have hki : (k : Int) < (R1.length : Int) := by omega
            have hkn : k < R1.length := by omega
            have hkn2 : k < R2.length := by have := HLE.out.2; omega
            obtain ⟨e1, o1, x, rfl, hlt1, hx, p1, hok1⟩ := (HR1.out.next HBZ.out (Nat.le_refl _)).at_ hkn
            obtain ⟨e2, o2, y, rfl, hlt2, hy, p2, hok2⟩ := (HR2.out.next HBZ.out (Nat.le_refl _)).at_ hkn2
            have HX := Lib.hid hx
            have HY := Lib.hid hy
            have HCC := Lib.hid (fun W (hb : Below wr.heap.size wr W) => refCmpR_any x y W ((hok1.more HBZ.out.size).up hb (Nat.le_refl _)) ((hok2.more HBZ.out.size).up hb (Nat.le_refl _)))
            obtain ⟨A5, c5, l5⟩ := x
            obtain ⟨A6, c6, l6⟩ := y
            unfold cellR at HCC
            obtain ⟨q, hq⟩ : ∃ q, ordR l5 l6 = q := ⟨_, rfl⟩
            have HQ := Lib.hid hq
            rw [hq] at HCC
            have hz1 : w.heap.size < wr.heap.size := Nat.lt_of_lt_of_le HCELL.out.2.2.2.2.1 HB.out.size
            have hz2 : wa.heap.size < wr.heap.size := Nat.lt_of_lt_of_le HCELL.out.2.2.2.2.2 HB.out.size
            have HBX1 := Lib.hid (show wr.cell? ⟨w.heap.size, 1, none⟩ = _ ∧ wr.cell? ⟨wa.heap.size, 1, none⟩ = _ ∧ w.heap.size < wr.heap.size ∧ wa.heap.size < wr.heap.size from ⟨a1, b1, hz1, hz2⟩)
            have HSD1 := Lib.hid (CsA.start p1 p2 (Nat.lt_of_lt_of_le hlt1 HBZ.out.size) (Nat.lt_of_lt_of_le hlt2 HBZ.out.size))
            obtain ⟨wd1, hwd1⟩ : ∃ wd, wr.drew = wd := ⟨_, rfl⟩
            rw [hwd1] at HSD1
            clear hx hy hok1 hok2 hq p1 p2 hz1 hz2 b0 b1 a0
            go_wp2_with fail
            refine wp_region_held_drew (S := CsA wr ⟨e1, o1 + k, none⟩ ⟨e2, o2 + k, none⟩ (.slice A5 l5.length c5) (.slice A6 l6.length c6)) (by kernel_rfl) (by rw [hwd1]; exact HSD1.out) (fun hHeld => ?_)
            rw [hwd1] at hHeld ⊢
            clear hwd1 a1
            refine takeV 0 (some 49) ((.pointer (some ⟨w.heap.size, 1, none⟩))) rfl rfl (by kernel_rfl) (by kernel_rfl) (by kernel_rfl) (fun _ _ _ h => h) (by rfl) (by (intro _w _hSw; (try dsimp only at _hSw); go_simp)) (by assumption) ?_
            simp only [Act.put, List.setIfInBounds_toArray, List.set_cons_zero, List.set_cons_succ]
            refine takeV 1 (some 50) ((.slice (some ⟨e1, o1, none⟩) R1.length c2)) rfl rfl (by kernel_rfl) (by kernel_rfl) (by kernel_rfl) (fun _ _ _ h => h) (by rfl) (by (intro _w hSw; have k0 := (hSw.2.2.2.cell (p := ⟨w.heap.size, 1, none⟩) HBX1.out.2.2.1).trans HBX1.out.1; clear hSw; go_simp)) (by assumption) ?_
            simp only [Act.put, List.setIfInBounds_toArray, List.set_cons_zero, List.set_cons_succ]
            refine takeV 2 (some 51) ((.int .i64 k)) rfl rfl (by kernel_rfl) (by kernel_rfl) (by kernel_rfl) (fun _ _ _ h => h) (by rfl) (by (intro _w _hSw; (try dsimp only at _hSw); go_simp)) (by assumption) ?_
            simp only [Act.put, List.setIfInBounds_toArray, List.set_cons_zero, List.set_cons_succ]
            refine takeV 3 (some 52) ((.pointer (some ⟨e1, o1 + k, none⟩))) rfl rfl (by kernel_rfl) (by kernel_rfl) (by kernel_rfl) (fun _ _ _ h => h) (by rfl) (by (intro _w _hSw; (try dsimp only at _hSw); go_simp)) (by assumption) ?_
            simp only [Act.put, List.setIfInBounds_toArray, List.set_cons_zero, List.set_cons_succ]
            refine takeV 4 (some 53) ((.slice A5 l5.length c5)) rfl rfl (by kernel_rfl) (by kernel_rfl) (by kernel_rfl) (fun _ _ _ h => h) (by rfl) (by (intro _w hSw; have k0 := hSw.1; clear hSw; go_simp)) (by assumption) ?_
            simp only [Act.put, List.setIfInBounds_toArray, List.set_cons_zero, List.set_cons_succ]
            refine takeV 5 (some 54) ((.pointer (some ⟨wa.heap.size, 1, none⟩))) rfl rfl (by kernel_rfl) (by kernel_rfl) (by kernel_rfl) (fun _ _ _ h => h) (by rfl) (by (intro _w _hSw; (try dsimp only at _hSw); go_simp)) (by assumption) ?_
            simp only [Act.put, List.setIfInBounds_toArray, List.set_cons_zero, List.set_cons_succ]
            refine takeV 6 (some 55) ((.slice (some ⟨e2, o2, none⟩) R2.length c4)) rfl rfl (by kernel_rfl) (by kernel_rfl) (by kernel_rfl) (fun _ _ _ h => h) (by rfl) (by (intro _w hSw; have k0 := (hSw.2.2.2.cell (p := ⟨wa.heap.size, 1, none⟩) HBX1.out.2.2.2).trans HBX1.out.2.1; clear hSw; go_simp)) (by assumption) ?_
            simp only [Act.put, List.setIfInBounds_toArray, List.set_cons_zero, List.set_cons_succ]
            refine takeV 7 (some 56) ((.int .i64 k)) rfl rfl (by kernel_rfl) (by kernel_rfl) (by kernel_rfl) (fun _ _ _ h => h) (by rfl) (by (intro _w _hSw; (try dsimp only at _hSw); go_simp)) (by assumption) ?_
            simp only [Act.put, List.setIfInBounds_toArray, List.set_cons_zero, List.set_cons_succ]
            refine takeV 8 (some 57) ((.pointer (some ⟨e2, o2 + k, none⟩))) rfl rfl (by kernel_rfl) (by kernel_rfl) (by kernel_rfl) (fun _ _ _ h => h) (by rfl) (by (intro _w _hSw; (try dsimp only at _hSw); go_simp)) (by assumption) ?_
            simp only [Act.put, List.setIfInBounds_toArray, List.set_cons_zero, List.set_cons_succ]
            refine takeV 9 (some 58) ((.slice A6 l6.length c6)) rfl rfl (by kernel_rfl) (by kernel_rfl) (by kernel_rfl) (fun _ _ _ h => h) (by rfl) (by (intro _w hSw; have k0 := hSw.2.1; clear hSw; go_simp)) (by assumption) ?_
            simp only [Act.put, List.setIfInBounds_toArray, List.set_cons_zero, List.set_cons_succ]
            refine callV 10 rfl (by kernel_rfl) (by rfl) (fun K hK => ?_)
            go_simp
            refine (HCC.out _ hHeld.2.2.2).mono ?_
            rintro e w3 ⟨rfl, hb3⟩
            have HB3 := Lib.hid ((hHeld.next hb3).2.2.2)
            refine hK.out _ _ (hHeld.next hb3) (fun _ => ?_)
            clear hK K hHeld hb3
            try simp only [Act.put, List.setIfInBounds_toArray, List.set_cons_zero, List.set_cons_succ]
            refine takeV 11 (some 7) ((.int .i64 q)) rfl rfl (by kernel_rfl) (by kernel_rfl) (by kernel_rfl) (fun _ _ _ h => h) (by rfl) (by (intro _w _hSw; (try dsimp only at _hSw); go_simp)) (by assumption) ?_
            simp only [Act.put, List.setIfInBounds_toArray, List.set_cons_zero, List.set_cons_succ]
            refine wpAnyH_done (by kernel_rfl) ?_ _
            clear HSD1
            by_cases hq0 : q = 0
            · have hq1 : (q != 0) = false := by rw [hq0]; rfl
              have HE : Hid (∀ i (x y : Rw), i < k + 1 → R1[i]? = some x → R2[i]? = some y → x.l = y.l) := fun i x y h1 h2 h3 => by
                by_cases e : i = k
                · subst e
                  rw [HX.out] at h2
                  rw [HY.out] at h3
                  rw [← Option.some.inj h2, ← Option.some.inj h3]
                  exact (ordR_is.zero _ _).1 (by rw [← hq0]; exact HQ.out)
                · exact HK.out i x y (by omega) h2 h3
              clear hq0
              go_wp2
              go_roundg g
              case measure => omega
              case rel => exact ⟨k + 1, by go_num, by omega, HE.out, HB.out.trans (HB3.out.mono HB.out.size)⟩
            · have hq1 : (q != 0) = true := by simpa using hq0
              have HE : Hid (sameB l1 l2 (txR R1) (txR R2) = false) := sameB_no (.inr fun e => hq0 (by
                have h1 := txR_at HX.out
                have h2 := txR_at HY.out
                rw [e, h2] at h1
                have h3 : l6 = l5 := Option.some.inj h1
                rw [← HQ.out]
                exact (ordR_is.zero _ _).2 h3.symm))
              clear hq0
              go_wp2
              go_ret
              exact ⟨ret_bool (by rw [HE.out]), HBZ.out.trans (HB3.out.mono HBZ.out.size)⟩
          | zero =>
            have hki : ¬ (k : Int) < (R1.length : Int) := by omega
            have HET : Hid (txR R1 = txR R2) := by
              show _ = _
              refine list_eq_of (by rw [txR_len, txR_len]; exact HLE.out.2) fun i h1 h2 => ?_
              rw [txR_len] at h1 h2
              have hh := HK.out i R1[i] R2[i] (by omega) (List.getElem?_eq_getElem h1) (List.getElem?_eq_getElem h2)
              simpa [txR] using hh
            have HE : Hid (sameB l1 l2 (txR R1) (txR R2) = true) := by
              show _ = _
              rw [HEC.out, HET.out]; exact sameB_yes
            go_wp2
            go_ret
            exact ⟨ret_bool (by rw [HE.out]), HBZ.out⟩
  · have hq12 : ((l1.length : Int) != (l2.length : Int)) = true ∨ (((l1.length : Int) != (l2.length : Int)) = false ∧ ((R1.length : Int) != (R2.length : Int)) = true) := by
      by_cases h : l1.length = l2.length
      · refine .inr ⟨by rw [h]; simp, ?_⟩
        rw [bne_iff_ne]
        intro e
        exact hlen ⟨h, by omega⟩
      · refine .inl ?_
        rw [bne_iff_ne]; omega
    have HE : Hid (sameB l1 l2 (txR R1) (txR R2) = false) := by
      refine sameB_no ?_
      by_cases h : l1 = l2
      · refine .inr fun e => hlen ⟨by rw [h], ?_⟩
        have := congrArg List.length e
        rwa [txR_len, txR_len] at this
      · exact .inl h
    clear hlen
    rcases hq12 with q1 | ⟨q1, q2⟩
    · go_enter Try.func17, Try.ntmps17
      go_wp2
      go_ret
      exact ⟨ret_bool (by rw [HE.out]), HBB.out⟩
    · go_enter Try.func17, Try.ntmps17
      go_wp2
      go_ret
      exact ⟨ret_bool (by rw [HE.out]), HBB.out⟩
end Go.Proofs.Ytofmfainhflmmaa
