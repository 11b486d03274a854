/-
  CONTRACT: the document's Of.
-/
import Derived.Test.YtafnhhbdcleihaaZMade
namespace Go.Proofs.Ytafnhhbdcleihaa
open Go.RowKit

theorem madeC_of {cols : List ByteArray} {R : List Rw} (h1 : colsB cols = true) (h2 : longB cols.length R = true) : madeC cols.length (txR R) = ofC cols R := by
  have h3 : cols.length ≤ 32 := by
    unfold colsB at h1
    rw [Bool.and_eq_true, decide_eq_true_eq] at h1
    exact h1.1
  unfold madeC ofC
  rw [if_neg (by omega), if_pos (show colsB cols = true ∧ longB cols.length R = true from ⟨h1, h2⟩)]
  by_cases h : (putsG ordR (txR R)).length ≤ 100000
  · rw [if_neg (by omega), if_pos h]
  · rw [if_pos (by omega), if_neg h]
/-- a relation of the document's, stored behind a call in a block that was there -/
theorem RefEnd.store {w wr w1 : World} {A : Option Addr} {c : Nat} {cols : List ByteArray} {T : List (List Vl)} {code : Int} {vc vr : Value} {g : Nat} {a0 a1 : Option Addr} {n0 n1 k0 k1 : Nat} {t : TypeId} {fr : Nat × Nat}
    (hw : Below w.heap.size w wr) (hg : w.heap.size ≤ g) (hgl : g < wr.heap.size) (hb : Below wr.heap.size wr w1) (hblk : wr.heap[g]? = some (.cells #[.slice a0 n0 k0, .slice a1 n1 k1] t fr))
    (h : (code = 0 ∧ vc = .slice A cols.length c ∧ ∃ R', RdR w1 wr.heap.size vr R' ∧ txR R' = T) ∨ (code ≠ 0 ∧ vc = .slice none 0 0 ∧ vr = .slice none 0 0)) :
    RefEnd w A c cols T code (.returned (.tuple #[.agg #[vc, vr], .int .i64 code])) ((w1.setCell ⟨g, 0, none⟩ vc).setCell ⟨g, 1, none⟩ vr) := by
  refine ⟨((hw.trans (hb.mono hw.size)).setCell (p := ⟨g, 0, none⟩) hg _).setCell (p := ⟨g, 1, none⟩) hg _, vc, vr, rfl, ?_⟩
  rcases h with ⟨h1, h2, R', h3, h4⟩ | h
  · refine .inl ⟨h1, h2, R', ?_, h4⟩
    have hblk2 := (hb.block g hgl).trans hblk
    have hk : ∀ r ∈ R', RwN w1 g r := fun r hr => by
      obtain ⟨_, _, _, hs, _⟩ := h3
      exact rwN_rel (hs.r r hr) hblk2
    exact (h3.keep hgl hk ((kp_set _ _ _).trans (kp_set _ _ _))).low hw.size
  · exact .inr h
/-- what is answered is a pair of slices -/
theorem RefEnd.slices {w w' : World} {A : Option Addr} {c : Nat} {cols : List ByteArray} {T : List (List Vl)} {code : Int} {vc vr : Value}
    (h : (code = 0 ∧ vc = .slice A cols.length c ∧ ∃ R', RdR w' w.heap.size vr R' ∧ txR R' = T) ∨ (code ≠ 0 ∧ vc = .slice none 0 0 ∧ vr = .slice none 0 0)) : (∃ a n k, vc = .slice a n k) ∧ ∃ a n k, vr = .slice a n k := by
  rcases h with ⟨_, h2, R', h3, _⟩ | ⟨_, h2, h3⟩
  · obtain ⟨A1, c1, e, _⟩ := h3
    exact ⟨⟨_, _, _, h2⟩, _, _, _, e⟩
  · exact ⟨⟨_, _, _, h2⟩, _, _, _, h3⟩

set_option maxRecDepth 100000 in
set_option maxHeartbeats 2000000 in
theorem refOf_any (A : Option Addr) (c : Nat) (cols : List ByteArray) (A' : Option Addr) (c' : Nat) (R : List Rw) (w : World) (hc : SlC w w.heap.size A cols) (hl : cols.length ≤ 1000000000) (hR : SlR w w.heap.size A' R) (hl' : R.length ≤ 100000000) (hll : ∀ r ∈ R, r.l.length ≤ 1000000000) :
    Calls Try.prog 15 #[.slice A cols.length c, .slice A' R.length c'] w (RefEnd w A c cols (putsG ordR (txR R)) (ofC cols R)) := by
  have HR := Lib.hid hR
  have HC := Lib.hid hc
  have HLL := Lib.hid hll
  clear hR hll hc
  have HB0 : Hid (Below w.heap.size w (w.alloc (.cells #[.slice none 0 0, .slice none 0 0] 34))) := (Below.refl _ _).alloc (Nat.le_refl _) _
  obtain ⟨w0, hw0⟩ : ∃ w0, w.alloc (.cells #[.slice none 0 0, .slice none 0 0] 34) = w0 := ⟨_, rfl⟩
  have c0 : w0.cell? ⟨w.heap.size, 0, none⟩ = some (.slice none 0 0) := by rw [← hw0, World.cell?_alloc_new]; rfl
  have c1 : w0.cell? ⟨w.heap.size, 1, none⟩ = some (.slice none 0 0) := by rw [← hw0, World.cell?_alloc_new]; rfl
  have f0 : w0.frozen? ⟨w.heap.size, 0, none⟩ = false := by rw [← hw0]; simp
  have f1 : w0.frozen? ⟨w.heap.size, 1, none⟩ = false := by rw [← hw0]; simp
  have hz0 : w0.heap.size = w.heap.size + 1 := by rw [← hw0]; simp
  have HBK : Hid (w0.heap[w.heap.size]? = some (.cells #[.slice none 0 0, .slice none 0 0] 34 (0, 0))) := by show _ = _; rw [← hw0]; exact heap_alloc_new w _
  rw [hw0] at HB0
  have HZ0 : Hid (w.heap.size < w0.heap.size) := by show _ < _; omega
  clear hz0
  have HON := Lib.hid (once_any A c cols w0 w.heap.size (HC.out.next HB0.out (Nat.le_refl _)) (by omega))
  by_cases hq1 : colsB cols = true
  · rw [hq1] at HON
    have HQ1 := Lib.hid hq1
    clear hq1
    go_enter Try.func15, Try.ntmps15
    go_wp2_with fail
    refine HON.out.mono ?_
    rintro e w' ⟨rfl, rfl⟩
    go_wp2
    go_loopg [7] R.length (fun g x7 wr => ∃ j : Nat, x7 = .int .i64 j ∧ j + g = R.length ∧ Hid (∀ i (r : Rw), i < j → R[i]? = some r → r.l.length = cols.length) ∧ wr = w0)
    case atStart => exact ⟨0, rfl, by omega, fun i r h => absurd h (Nat.not_lt_zero _), rfl⟩
    case round =>
      obtain ⟨j, rfl, hj, HJ, rfl⟩ := hrel
      cases gk with
      | zero =>
        have hji : ¬ (j : Int) < (R.length : Int) := by omega
        have hlg : longB cols.length R = true := longB_yes fun i r hi hr => HJ.out i r (by omega) hr
        have HMC := Lib.hid (madeC_of HQ1.out hlg)
        have HCALL := made_any A c cols A' c' R wr ((HR.out.next HB0.out (Nat.le_refl _)).more HB0.out.size) hl' HLL.out
        rw [HMC.out] at HCALL
        have HCL := Lib.hid HCALL
        clear HCALL hlg
        go_wp2_with fail
        refine HCL.out.mono ?_
        rintro e w1 ⟨hb1, vc, vr, rfl, hcase⟩
        have HCASE := Lib.hid hcase
        have HB1 := Lib.hid hb1
        obtain ⟨⟨a1, n1, k1, e1⟩, a2, n2, k2, e2⟩ := RefEnd.slices hcase
        subst e1 e2
        have c0 := (hb1.cell (p := ⟨w.heap.size, 0, none⟩) HZ0.out).trans c0
        have c1 := (hb1.cell (p := ⟨w.heap.size, 1, none⟩) HZ0.out).trans c1
        have f0 := (hb1.frozen (p := ⟨w.heap.size, 0, none⟩) HZ0.out).trans f0
        have f1 := (hb1.frozen (p := ⟨w.heap.size, 1, none⟩) HZ0.out).trans f1
        have HC2 := Lib.hid (cells_two (v0 := .slice a1 n1 k1) (v1 := .slice a2 n2 k2) c0 c1)
        obtain ⟨code, hcode⟩ : ∃ code, ofC cols R = code := ⟨_, rfl⟩
        have HCO := Lib.hid hcode
        rw [hcode] at HCASE ⊢
        clear hcase hb1 hw0 hcode HCL HMC
        go_wp2
        refine bodyPost_ret (v := .tuple #[.agg #[.slice a1 n1 k1, .slice a2 n2 k2], .int .i64 code]) (by rw [results_ct rfl]; obtain ⟨x0, x1⟩ := HC2.out; clear c0 c1; go_simp) rfl ?_
        rw [HCO.out]
        exact RefEnd.store HB0.out (Nat.le_refl _) HZ0.out HB1.out HBK.out HCASE.out
      | succ g =>
        have hji : (j : Int) < (R.length : Int) := by omega
        have hjn : j < R.length := by omega
        obtain ⟨b, o, r, rfl, hb, hr, hp, hok⟩ := (HR.out.next HB0.out (Nat.le_refl _)).at_ hjn
        have HRR := Lib.hid hr
        by_cases hq2 : r.l.length = cols.length
        · have hqi : ((r.l.length : Int) != (cols.length : Int)) = false := by rw [hq2]; simp
          have HE : Hid (∀ i (q : Rw), i < j + 1 → R[i]? = some q → q.l.length = cols.length) := fun i q hi hq => by
            by_cases e : i = j
            · subst e
              rw [HRR.out] at hq
              rw [← Option.some.inj hq]; exact hq2
            · exact HJ.out i q (by omega) hq
          clear hr hok hq2
          go_wp2
          go_roundg g
          case measure => omega
          case rel => exact ⟨j + 1, by go_num, by omega, HE.out, rfl⟩
        · have hqi : ((r.l.length : Int) != (cols.length : Int)) = true := by rw [bne_iff_ne]; omega
          have HE : Hid (ofC cols R = 2) := by
            show _ = _
            unfold ofC
            rw [longB_no hr hq2, if_neg (by simp)]
          have HC2 := Lib.hid (cells_two (v0 := .slice none 0 0) (v1 := .slice none 0 0) c0 c1)
          clear hr hok hq2
          go_wp2
          refine bodyPost_ret (v := .tuple #[.agg #[.slice none 0 0, .slice none 0 0], .int .i64 2]) (by rw [results_ct rfl]; obtain ⟨x0, x1⟩ := HC2.out; clear c0 c1; go_simp) rfl ?_
          rw [HE.out]
          exact RefEnd.store HB0.out (Nat.le_refl _) HZ0.out (Below.refl _ _) HBK.out (.inr ⟨by decide, rfl, rfl⟩)
  · rw [Bool.not_eq_true] at hq1
    rw [hq1] at HON
    have HE : Hid (ofC cols R = 2) := by show _ = _; unfold ofC; rw [hq1, if_neg (by simp)]
    have HC2 := Lib.hid (cells_two (v0 := .slice none 0 0) (v1 := .slice none 0 0) c0 c1)
    clear hq1
    go_enter Try.func15, Try.ntmps15
    go_wp2_with fail
    refine HON.out.mono ?_
    rintro e w' ⟨rfl, rfl⟩
    go_wp2
    refine bodyPost_ret (v := .tuple #[.agg #[.slice none 0 0, .slice none 0 0], .int .i64 2]) (by rw [results_ct rfl]; obtain ⟨x0, x1⟩ := HC2.out; clear c0 c1; go_simp) rfl ?_
    rw [HE.out]
    exact RefEnd.store HB0.out (Nat.le_refl _) HZ0.out (Below.refl _ _) HBK.out (.inr ⟨by decide, rfl, rfl⟩)
end Go.Proofs.Ytafnhhbdcleihaa
