/-
  THE DOCUMENT'S TREE; CONTRACT: Diff.
-/
import Derived.Test.YtohpilamoglhcaaQRf3
import Derived.BigQuiet
import Derived.Laws.StructEq
namespace Go.Proofs.Ytohpilamoglhcaa
open Go.RowKit

theorem diff_take {L M : List Pr} (hR : Rise M) {j : Nat} {p : Pr} (hp : L[j]? = some p) : diffL (L.take (j + 1)) M = diffL (L.take j) M ++ (if p ∈ M then [] else [p]) := by
  rw [List.take_add_one, hp]
  unfold diffL
  rw [List.filter_append]
  congr 1
  have h := getL_some hR (k := p.1) (v := p.2)
  by_cases g : p ∈ M
  · have h2 := h.2 g
    simp [g, h2]
  · have h2 : ¬ getL M p.1 = some p.2 := fun e => g (h.1 e)
    simp [g, h2]
set_option maxRecDepth 100000 in
theorem eqR (q p : Pr) (w : World) : (binOp .eql 100 (.agg #[.string ⟨q.1.toArray⟩, .string ⟨q.2.toArray⟩]) (.agg #[.string ⟨p.1.toArray⟩, .string ⟨p.2.toArray⟩])).run Try.prog w = .ok (.bool (decide (q = p))) w := by
  have u9 := Try.underlying9
  have a9 := Try.isAgg9
  have hS : Try.prog.underlying 100 = some (.struct (Try.prog.fieldsOf 100)) := by kernel_rfl
  have hp : Try.prog.stoodInHeld 100 = false := by kernel_rfl
  rw [run_eql_struct, show (10000 : Nat) = 9999 + 1 from rfl, run_equalIn_agg w 9999 100 _ _ hS hp]
  simp only [Program.fieldsOf, Try.underlying100]
  go_simp
  obtain ⟨q1, q2⟩ := q
  obtain ⟨p1, p2⟩ := p
  by_cases h1 : q1 = p1 <;> by_cases h2 : q2 = p2 <;> simp [h1, h2]
theorem diff_le (L M : List Pr) : (diffL L M).length ≤ L.length := List.length_filter_le _ _
theorem mem_take {M : List Pr} {i : Nat} {p q : Pr} (hq : M[i]? = some q) : p ∈ M.take (i + 1) ↔ p ∈ M.take i ∨ q = p := by
  rw [List.take_add_one, hq]
  simp [eq_comm]
set_option maxRecDepth 100000 in
set_option maxHeartbeats 4000000 in
theorem diffR_any (A : Option Addr) (c : Nat) (L : List Pr) (A2 : Option Addr) (c2 : Nat) (K : List Pr) (w : World) (h : SlR w A L) (h2 : SlR w A2 K) (hl : L.length ≤ 1000000) (hl2 : K.length ≤ 1000000) (hR : Rise K) :
    Calls Try.prog 22 #[.agg #[.slice A L.length c], .agg #[.slice A2 K.length c2]] w (RowEnd w (diffL L K)) := by
  obtain ⟨i0, hi, hz0, hz1, hz2⟩ := info_parts infoR
  have H := Lib.hid h
  have H2 := Lib.hid h2
  have HR := Lib.hid hR
  clear h h2 hR
  obtain ⟨w1, hw1⟩ : ∃ X, (w.alloc (.cells #[.slice A L.length c] 54)).alloc (.cells #[.slice A2 K.length c2] 54) = X := ⟨_, rfl⟩
  have HB1 : Hid (Below w.heap.size w w1) := by show Below _ _ _; rw [← hw1]; exact ((Below.refl _ _).alloc (Nat.le_refl _) _).alloc (by simp) _
  have HX1 : Hid (Boxed w1 w.heap.size 54 (.slice A L.length c)) := by show Boxed _ _ _ _; rw [← hw1]; exact (Boxed.new w _ _).alloc _
  have HY1 : Hid (Boxed w1 (w.heap.size + 1) 54 (.slice A2 K.length c2)) := by
    show Boxed _ _ _ _
    rw [← hw1]
    have := Boxed.new (w.alloc (.cells #[.slice A L.length c] 54)) 54 (.slice A2 K.length c2)
    rw [World.size_alloc] at this
    exact this
  go_enter Try.func22, Try.ntmps22
  go_wp2_with fail
  try rw [hw1]
  clear hw1
  go_loopg [5, 6] L.length (fun gk x y wr => ∃ (j : Nat), y = .int .i64 (j : Nat) ∧ j + gk = L.length ∧ Hid (OwnR wr w.heap.size x (diffL (L.take j) K)) ∧ Hid (Below w.heap.size w wr) ∧ Hid (Boxed wr w.heap.size 54 (.slice A L.length c)) ∧ Hid (Boxed wr (w.heap.size + 1) 54 (.slice A2 K.length c2)))
  case atStart => exact ⟨0, rfl, by omega, ownR_nil _ _, HB1.out, HX1.out, HY1.out⟩
  case round =>
    obtain ⟨j, rfl, hj, HO, HB, HX, HY⟩ := hrel
    have b0 := HX.out.cell
    obtain ⟨Ao, co, rfl⟩ := HO.out.form
    cases gk with
    | zero =>
      have hjz : ¬ ((j : Int) < (L.length : Int)) := by omega
      have hjz' : decide ((j : Int) < (L.length : Int)) = false := decide_eq_false hjz
      have e1 : diffL (L.take j) K = diffL L K := by rw [List.take_of_length_le (by omega)]
      rw [e1] at HO ⊢
      have HF : Hid (RowEnd w (diffL L K) (.returned (.slice Ao (diffL L K).length co)) wr) := ⟨Ao, co, rfl, HO.out.slR, HB.out⟩
      clear e1
      obtain ⟨m, hm⟩ : ∃ m, (diffL L K).length = m := ⟨_, rfl⟩
      rw [hm] at HF ⊢
      go_wp2
      go_ret
      exact HF.out
    | succ gk1 =>
      have hjz : ((j : Int) < (L.length : Int)) := by omega
      have hjz' : decide ((j : Int) < (L.length : Int)) = true := decide_eq_true hjz
      have hj0 : (0 : Int) ≤ (j : Int) := by omega
      obtain ⟨g, o, p, rfl, hp, hlt, hc, hc2⟩ := (H.out.next HB.out).at_ (j := j) (by omega)
      have HRT := Lib.hid (diff_take HR.out hp)
      have HLN : Hid ((diffL (L.take j) K).length ≤ 1000000) := by show _ ≤ _; have := diff_le (L.take j) K; rw [List.length_take] at this; omega
      obtain ⟨M, hM⟩ : ∃ M, diffL (L.take j) K = M := ⟨_, rfl⟩
      rw [hM] at HRT HO HLN ⊢
      obtain ⟨m, hm⟩ : ∃ m, M.length = m := ⟨_, rfl⟩
      have HM := Lib.hid hm
      have HOm := HO
      rw [hm] at HOm
      rw [hm] at HLN ⊢
      clear hp hM hm HO
      have HO := HOm
      have HCC := Lib.hid hc
      have HCD := Lib.hid hc2
      have HGL := Lib.hid hlt
      clear HOm hc hc2 hlt
      go_wp2_with fail
      clear b0
      go_loopg [7, 8] K.length (fun gk x y wq => ∃ (i : Nat) (b : Bool), y = .int .i64 (i : Nat) ∧ i + gk = K.length ∧ x = .bool b ∧ Hid (b = decide (p ∈ K.take i)) ∧ Hid (Below wr.heap.size wr wq))
      case atStart => exact ⟨0, false, rfl, by omega, rfl, by show _ = _; simp, Below.refl _ _⟩
      case round =>
        obtain ⟨i, b, rfl, hgi, rfl, HBL, HBB⟩ := hrel
        have HBq := Lib.hid (HB.out.trans (HBB.out.mono HB.out.size))
        have HOq := Lib.hid (HO.out.next HBB.out)
        have hxq : Boxed wr w.heap.size 54 (.slice (some ⟨g, o, none⟩) L.length c) := (HBB.out.block _ HX.out.lt).trans HX.out
        have hyq : Boxed wr (w.heap.size + 1) 54 (.slice A2 K.length c2) := (HBB.out.block _ HY.out.lt).trans HY.out
        have HXq := Lib.hid hxq
        have HYq := Lib.hid hyq
        have b0 := hxq.cell
        have b1 := hyq.cell
        have p0 : wr.cell? ⟨g, o + j * 2, none⟩ = some (.string ⟨p.1.toArray⟩) := (HBB.out.cell (p := ⟨g, o + j * 2, none⟩) HGL.out).trans HCC.out
        have p1 : wr.cell? ⟨g, o + j * 2 + 1, none⟩ = some (.string ⟨p.2.toArray⟩) := (HBB.out.cell (p := ⟨g, o + j * 2 + 1, none⟩) HGL.out).trans HCD.out
        clear hxq hyq
        cases gk with
        | zero =>
          have hiz : ¬ ((i : Int) < (K.length : Int)) := by omega
          have hiz' : decide ((i : Int) < (K.length : Int)) = false := decide_eq_false hiz
          have hbl : b = decide (p ∈ K) := by have := HBL.out; rw [List.take_of_length_le (by omega)] at this; exact this
          by_cases hm : p ∈ K
          · obtain rfl : b = true := by rw [hbl]; exact decide_eq_true hm
            have HE : Hid (diffL (L.take (j + 1)) K = M) := by show _ = _; rw [HRT.out, if_pos hm, List.append_nil]
            clear hm hbl
            go_wp2
            go_roundg gk1
            case measure => omega
            case rel => exact ⟨j + 1, by go_num, by omega, by rw [HE.out]; exact HOq.out, HBq.out, HXq.out, HYq.out⟩
          · obtain rfl : b = false := by rw [hbl]; exact decide_eq_false hm
            have HE : Hid (diffL (L.take (j + 1)) K = M ++ [p]) := by show _ = _; rw [HRT.out, if_neg hm]
            have hoa : (wr.alloc (.cells #[.string ⟨p.1.toArray⟩, .string ⟨p.2.toArray⟩] 100)).ownsRow w.heap.size 100 2 (.slice Ao m co) m (M.flatMap cellsR) := by have h9 := World.ownsRow.alloc (show wr.ownsRow w.heap.size 100 2 (.slice Ao m co) M.length (M.flatMap cellsR) from HOq.out) (.cells #[.string ⟨p.1.toArray⟩, .string ⟨p.2.toArray⟩] 100); rw [HM.out] at h9; exact h9
            have HOA := Lib.hid hoa
            have HBS : Hid (w.heap.size ≤ (wr.alloc (.cells #[.string ⟨p.1.toArray⟩, .string ⟨p.2.toArray⟩] 100)).heap.size) := by show _ ≤ _; have := HBq.out.size; simp; omega
            have HBN1 : Hid (m + 1 ≤ maxLen) := by show _ ≤ _; have := HLN.out; have : 2000000 ≤ maxLen := (by decide); omega
            have HBN2 : Hid ((m + 1) * 32 ≤ 140737488355328) := by show _ ≤ _; have := HLN.out; omega
            clear hoa hm hbl
            go_wp2_with (at_builtin; refine wpList_append_own _ rfl _ _ 52 rfl w.heap.size 100 i0 (.agg #[.string ⟨#[]⟩, .string ⟨#[]⟩]) 2 32 Try.underlying52 hi hz0 hz1 hz2 rfl (by decide) _ _ _ rfl HOA.out ⟨wr.heap.size, 0, none⟩ 1 1 (cellsR p) rfl rfl (fun j u h => cell_lit wr #[.string ⟨p.1.toArray⟩, .string ⟨p.2.toArray⟩] 100 j u h) (cellsR_one _) HBN1.out HBN2.out HBS.out ?_; intro v3 w3 hown hgrow _; have hst := ownR_step HOq.out HBq.out (by rw [HM.out]; exact hown) hgrow; have HO3 := Lib.hid hst.1; have HB3 := Lib.hid hst.2.1; have HX3 := Lib.hid (hst.2.2 _ _ _ (by decide) HXq.out); have HY3 := Lib.hid (hst.2.2 _ _ _ (by decide) HYq.out); clear hown hgrow hst)
            go_roundg gk1
            case measure => omega
            case rel => exact ⟨j + 1, by go_num, by omega, by rw [HE.out]; exact HO3.out, HB3.out, HX3.out, HY3.out⟩
        | succ gk =>
          have hiz : ((i : Int) < (K.length : Int)) := by omega
          have hiz' : decide ((i : Int) < (K.length : Int)) = true := decide_eq_true hiz
          have hi0 : (0 : Int) ≤ (i : Int) := by omega
          obtain ⟨ga, oa, q, rfl, hq, _, hd, hd2⟩ := (H2.out.next HBq.out).at_ (j := i) (by omega)
          have HMT := Lib.hid (mem_take (p := p) hq)
          clear hq
          cases b with
          | true =>
            have HE : Hid (true = decide (p ∈ K.take (i + 1))) := by
              show _ = _
              have h9 : p ∈ K.take i := of_decide_eq_true HBL.out.symm
              exact (decide_eq_true (HMT.out.2 (.inl h9))).symm
            go_wp2_with fail
            go_quiet (fail)
            have HBR := Lib.hid (qb_dn HBB.out nq)
            go_wp2
            go_roundg gk
            case measure => omega
            case rel => exact ⟨i + 1, true, by go_num, by omega, rfl, HE.out, HBR.out⟩
          | false =>
            have h9 : ¬ p ∈ K.take i := of_decide_eq_false HBL.out.symm
            obtain ⟨b2, hb2⟩ : ∃ b2, decide (q = p) = b2 := ⟨_, rfl⟩
            have HE : Hid (b2 = decide (p ∈ K.take (i + 1))) := by
              show _ = _
              rw [← hb2]
              by_cases e : q = p
              · rw [decide_eq_true e, decide_eq_true (HMT.out.2 (.inr e))]
              · rw [decide_eq_false e, decide_eq_false (fun h => (HMT.out.1 h).elim h9 e)]
            have heq : ∀ X, (binOp .eql 100 (.agg #[.string ⟨q.1.toArray⟩, .string ⟨q.2.toArray⟩]) (.agg #[.string ⟨p.1.toArray⟩, .string ⟨p.2.toArray⟩])).run Try.prog X = .ok (.bool b2) X := fun X => by rw [eqR, hb2]
            clear h9 hb2
            go_wp2_with fail
            go_quiet (fail)
            have HBR := Lib.hid (qb_dn HBB.out nq)
            clear heq
            go_wp2
            go_roundg gk
            case measure => omega
            case rel => exact ⟨i + 1, b2, by go_num, by omega, rfl, HE.out, HBR.out⟩
end Go.Proofs.Ytohpilamoglhcaa
