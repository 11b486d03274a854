/-
  THE DOCUMENT'S TREE; CONTRACTS: Cut, At.
-/
import Derived.Test.YtohpilamoglhcaaQRf2
namespace Go.Proofs.Ytohpilamoglhcaa
open Go.RowKit

theorem cut_take {L : List Pr} {j : Nat} {p : Pr} (k : By) (hp : L[j]? = some p) : cutL (L.take (j + 1)) k = cutL (L.take j) k ++ (if p.1 = k then [] else [p]) := by
  rw [List.take_add_one, hp]
  unfold cutL
  rw [List.filter_append]
  congr 1
  by_cases g : p.1 = k <;> simp [g]
theorem cut_le (L : List Pr) (k : By) : (cutL L k).length ≤ L.length := List.length_filter_le _ _
theorem OwnR.cap {w : World} {B n c : Nat} {A : Option Addr} {M : List Pr} (h : OwnR w B (.slice A n c) M) : n = M.length ∧ M.length ≤ c := by
  have h : w.ownsRow B 100 2 (.slice A n c) M.length (M.flatMap cellsR) := h
  rcases h.2 with ⟨e, h0⟩ | ⟨g, cap, cur, e, _, _, h1, _⟩
  · injection e with e1 e2 e3
    omega
  · injection e with e1 e2 e3
    subst e2 e3
    exact ⟨rfl, h1⟩
/-- what the document's calls that make trees leave -/
def TrEnd (w : World) (M : List Pr) (e : Ending) (w' : World) : Prop := ∃ A c, e = .returned (.agg #[.slice A M.length c]) ∧ SlR w' A M ∧ Below w.heap.size w w' ∧ M.length ≤ c
theorem OwnR.set {w : World} {B b : Nat} {v u x : Value} {t : TypeId} {M : List Pr} (h : OwnR w B v M) (hb : Boxed w b t x) (ht : t ≠ 100) : OwnR (w.setCell ⟨b, 0, none⟩ u) B v M :=
  World.ownsRow.kept h (grownBy_setCell' w b u) (.inr (hb.not_row ht h).symm)
set_option maxRecDepth 100000 in
set_option maxHeartbeats 4000000 in
theorem cutR_any (A : Option Addr) (c : Nat) (L : List Pr) (k : By) (w : World) (h : SlR w A L) (hl : L.length ≤ 1000000) :
    Calls Try.prog 18 #[.agg #[.slice A L.length c], .string ⟨k.toArray⟩] w (TrEnd w (cutL L k)) := by
  obtain ⟨i0, hi, hz0, hz1, hz2⟩ := info_parts infoR
  have H := Lib.hid h
  clear h
  obtain ⟨w1, hw1⟩ : ∃ X, (w.alloc (.cells #[.slice A L.length c] 54)).alloc (.cells #[.slice none 0 0] 54) = X := ⟨_, rfl⟩
  have HB1 : Hid (Below w.heap.size w w1) := by show Below _ _ _; rw [← hw1]; exact ((Below.refl _ _).alloc (Nat.le_refl _) _).alloc (by simp) _
  have HX1 : Hid (Boxed w1 w.heap.size 54 (.slice A L.length c)) := by show Boxed _ _ _ _; rw [← hw1]; exact (Boxed.new w _ _).alloc _
  have HY1 : Hid (Boxed w1 (w.heap.size + 1) 54 (.slice none 0 0)) := by
    show Boxed _ _ _ _
    rw [← hw1]
    have := Boxed.new (w.alloc (.cells #[.slice A L.length c] 54)) 54 (.slice none 0 0)
    rw [World.size_alloc] at this
    exact this
  go_enter Try.func18, Try.ntmps18
  go_wp2_with fail
  try rw [hw1]
  clear hw1
  go_loopg [5, 6] L.length (fun gk x y wr => ∃ (j : Nat), y = .int .i64 (j : Nat) ∧ j + gk = L.length ∧ Hid (OwnR wr w.heap.size x (cutL (L.take j) k)) ∧ Hid (Below w.heap.size w wr) ∧ Hid (Boxed wr w.heap.size 54 (.slice A L.length c)) ∧ Hid (Boxed wr (w.heap.size + 1) 54 (.slice none 0 0)))
  case atStart => exact ⟨0, rfl, by omega, ownR_nil _ _, HB1.out, HX1.out, HY1.out⟩
  case round =>
    obtain ⟨j, rfl, hj, HO, HB, HX, HY⟩ := hrel
    have b0 := HX.out.cell
    obtain ⟨Ao, co, rfl⟩ := HO.out.form
    cases gk with
    | zero =>
      have hjz : ¬ ((j : Int) < (L.length : Int)) := by omega
      have hjz' : decide ((j : Int) < (L.length : Int)) = false := decide_eq_false hjz
      have e1 : cutL (L.take j) k = cutL L k := by rw [List.take_of_length_le (by omega)]
      rw [e1] at HO ⊢
      obtain ⟨M, hM⟩ : ∃ M, cutL L k = M := ⟨_, rfl⟩
      have HMM := Lib.hid hM
      rw [hM] at HO ⊢
      have y0 := HY.out.cell
      have y1 := HY.out.frozen
      obtain ⟨w5, hw5⟩ : ∃ X, wr.setCell ⟨w.heap.size + 1, 0, none⟩ (.slice Ao M.length co) = X := ⟨_, rfl⟩
      have hx5 : Boxed w5 (w.heap.size + 1) 54 (.slice Ao M.length co) := by rw [← hw5]; exact HY.out.set _
      have ho5 : OwnR w5 w.heap.size (.slice Ao M.length co) M := by rw [← hw5]; exact HO.out.set HY.out (by decide)
      have hb5 : Below w.heap.size w w5 := by rw [← hw5]; exact HB.out.setCell (p := ⟨w.heap.size + 1, 0, none⟩) (Nat.le_succ _) _
      have HF : Hid (TrEnd w M (.returned (.agg #[.slice Ao M.length co])) w5) := ⟨Ao, co, rfl, ho5.slR, hb5, (OwnR.cap ho5).2⟩
      have q0 := hx5.cell
      clear e1 hM hx5 ho5 hb5
      go_wp2
      try rw [hw5]
      clear y0 y1 hw5
      refine bodyPost_ret (v := .agg #[.slice Ao M.length co]) ?_ rfl (by rw [HMM.out]; exact HF.out)
      rw [results_cell_one' rfl]
      simp [go_sem, q0]
    | succ gk =>
      have hjz : ((j : Int) < (L.length : Int)) := by omega
      have hjz' : decide ((j : Int) < (L.length : Int)) = true := decide_eq_true hjz
      have hj0 : (0 : Int) ≤ (j : Int) := by omega
      obtain ⟨g, o, p, rfl, hp, hlt, hc, hc2⟩ := (H.out.next HB.out).at_ (j := j) (by omega)
      have HRT := Lib.hid (cut_take k hp)
      have HLN : Hid ((cutL (L.take j) k).length ≤ 1000000) := by show _ ≤ _; have := cut_le (L.take j) k; rw [List.length_take] at this; omega
      obtain ⟨M, hM⟩ : ∃ M, cutL (L.take j) k = M := ⟨_, rfl⟩
      rw [hM] at HRT HO HLN ⊢
      obtain ⟨m, hm⟩ : ∃ m, M.length = m := ⟨_, rfl⟩
      have HM := Lib.hid hm
      have HOm := HO
      rw [hm] at HOm
      rw [hm] at HLN ⊢
      clear hp hM hm HO
      have HO := HOm
      clear HOm
      by_cases g1 : p.1 = k
      · have g1' : (p.1 == k) = true := by rw [g1]; exact beq_self_eq_true _
        have HE : Hid (cutL (L.take (j + 1)) k = M) := by show _ = _; rw [HRT.out, if_pos g1, List.append_nil]
        clear g1
        go_wp2
        go_roundg gk
        case measure => omega
        case rel => exact ⟨j + 1, by go_num, by omega, by rw [HE.out]; exact HO.out, HB.out, HX.out, HY.out⟩
      · have g1' : (p.1 == k) = false := beq_eq_false_iff_ne.2 g1
        have HE : Hid (cutL (L.take (j + 1)) k = M ++ [p]) := by show _ = _; rw [HRT.out, if_neg g1]
        have hoa : (wr.alloc (.cells #[.string ⟨p.1.toArray⟩, .string ⟨p.2.toArray⟩] 100)).ownsRow w.heap.size 100 2 (.slice Ao m co) m (M.flatMap cellsR) := by have h9 := World.ownsRow.alloc (show wr.ownsRow w.heap.size 100 2 (.slice Ao m co) M.length (M.flatMap cellsR) from HO.out) (.cells #[.string ⟨p.1.toArray⟩, .string ⟨p.2.toArray⟩] 100); rw [HM.out] at h9; exact h9
        have HOA := Lib.hid hoa
        have HBS : Hid (w.heap.size ≤ (wr.alloc (.cells #[.string ⟨p.1.toArray⟩, .string ⟨p.2.toArray⟩] 100)).heap.size) := by show _ ≤ _; have := HB.out.size; simp; omega
        have HBN1 : Hid (m + 1 ≤ maxLen) := by show _ ≤ _; have := HLN.out; have : 2000000 ≤ maxLen := (by decide); omega
        have HBN2 : Hid ((m + 1) * 32 ≤ 140737488355328) := by show _ ≤ _; have := HLN.out; omega
        clear hoa g1
        go_wp2_with (at_builtin; refine wpList_append_own _ rfl _ _ 52 rfl w.heap.size 100 i0 (.agg #[.string ⟨#[]⟩, .string ⟨#[]⟩]) 2 32 Try.underlying52 hi hz0 hz1 hz2 rfl (by decide) _ _ _ rfl HOA.out ⟨wr.heap.size, 0, none⟩ 1 1 (cellsR p) rfl rfl (fun j u h => cell_lit wr #[.string ⟨p.1.toArray⟩, .string ⟨p.2.toArray⟩] 100 j u h) (cellsR_one _) HBN1.out HBN2.out HBS.out ?_; intro v3 w3 hown hgrow _; have hst := ownR_step HO.out HB.out (by rw [HM.out]; exact hown) hgrow; have HO3 := Lib.hid hst.1; have HB3 := Lib.hid hst.2.1; have HX3 := Lib.hid (hst.2.2 _ _ _ (by decide) HX.out); have HY3 := Lib.hid (hst.2.2 _ _ _ (by decide) HY.out); clear hown hgrow hst)
        go_roundg gk
        case measure => omega
        case rel => exact ⟨j + 1, by go_num, by omega, by rw [HE.out]; exact HO3.out, HB3.out, HX3.out, HY3.out⟩
/-- a box of a pair of strings -/
def RBox (w : World) (b : Nat) (v1 v2 : Value) : Prop := w.heap[b]? = some (.cells #[v1, v2] 100 (0, 0))
theorem RBox.cell {w : World} {b : Nat} {v1 v2 : Value} (h : RBox w b v1 v2) (j : Nat) : w.cell? ⟨b, j, none⟩ = (#[v1, v2])[j]? := by
  unfold RBox at h; simp [World.cell?, h]
theorem RBox.frozen {w : World} {b : Nat} {v1 v2 : Value} (h : RBox w b v1 v2) (j : Nat) : w.frozen? ⟨b, j, none⟩ = false := by unfold RBox at h; simp [World.frozen?, h]
theorem RBox.set {w : World} {b : Nat} {v1 v2 u1 u2 : Value} (h : RBox w b v1 v2) : RBox ((w.setCell ⟨b, 0, none⟩ u1).setCell ⟨b, 1, none⟩ u2) b u1 u2 := by
  have h1 : (w.setCell ⟨b, 0, none⟩ u1).heap[b]? = some (.cells #[u1, v2] 100 (0, 0)) := (heap_setCell_same _ _ _ _ _ _ h).trans (by simp)
  exact (heap_setCell_same _ _ _ _ _ _ h1).trans (by simp)
set_option maxRecDepth 100000 in
set_option maxHeartbeats 2000000 in
theorem atR_any (A : Option Addr) (c : Nat) (L : List Pr) (i : Int) (w : World) (h : SlR w A L) (_hl : L.length ≤ 1000000) :
    Calls Try.prog 41 #[.agg #[.slice A L.length c], .int .i64 i] w fun e w' => e = .returned (.tuple #[.agg #[.string ⟨(atP L i).1.toArray⟩, .string ⟨(atP L i).2.toArray⟩], .bool (isP L i)]) ∧ Below w.heap.size w w' := by
  obtain ⟨w1, hw1⟩ : ∃ X, (w.alloc (.cells #[.slice A L.length c] 54)).alloc (.cells #[.string ⟨#[]⟩, .string ⟨#[]⟩] 100) = X := ⟨_, rfl⟩
  have hb1 : Below w.heap.size w w1 := by rw [← hw1]; exact ((Below.refl _ _).alloc (Nat.le_refl _) _).alloc (by simp) _
  have hx1 : Boxed w1 w.heap.size 54 (.slice A L.length c) := by rw [← hw1]; exact (Boxed.new w _ _).alloc _
  have hy1 : RBox w1 (w.heap.size + 1) (.string ⟨#[]⟩) (.string ⟨#[]⟩) := by
    rw [← hw1]
    have := heap_alloc_new (w.alloc (.cells #[.slice A L.length c] 54)) (.cells #[.string ⟨#[]⟩, .string ⟨#[]⟩] 100)
    rw [World.size_alloc] at this
    exact this
  have b0 := hx1.cell
  have y0 := hy1.cell 0
  have y1 := hy1.cell 1
  have f0 := hy1.frozen 0
  have f1 := hy1.frozen 1
  have H1 := h.next hb1
  by_cases g : 0 ≤ i ∧ i < L.length
  · obtain ⟨j, rfl⟩ : ∃ j : Nat, i = (j : Int) := ⟨i.toNat, by omega⟩
    obtain ⟨g9, o, p, rfl, hp, hlt, hc, hc2⟩ := H1.at_ (j := j) (by omega)
    have eP : atP L (j : Int) = p := by unfold atP; rw [if_pos g.1]; simp [hp]
    have eI : isP L (j : Int) = true := by unfold isP; exact decide_eq_true g
    rw [eP, eI]
    have g0 : ¬ (j : Int) < 0 := by omega
    have g0' : decide ((j : Int) < 0) = false := decide_eq_false g0
    have gg : (0 : Int) ≤ (j : Int) := g.1
    have g1 : (j : Int) < (L.length : Int) := g.2
    have g2 : ¬ (L.length : Int) ≤ (j : Int) := by omega
    have g2' : decide ((L.length : Int) ≤ (j : Int)) = false := decide_eq_false g2
    obtain ⟨w5, hw5⟩ : ∃ X, (w1.setCell ⟨w.heap.size + 1, 0, none⟩ (.string ⟨p.1.toArray⟩)).setCell ⟨w.heap.size + 1, 1, none⟩ (.string ⟨p.2.toArray⟩) = X := ⟨_, rfl⟩
    have hp5 : RBox w5 (w.heap.size + 1) (.string ⟨p.1.toArray⟩) (.string ⟨p.2.toArray⟩) := by rw [← hw5]; exact hy1.set
    have HB5 : Hid (Below w.heap.size w w5) := by show Below _ _ _; rw [← hw5]; exact (hb1.setCell (p := ⟨w.heap.size + 1, 0, none⟩) (Nat.le_succ _) _).setCell (p := ⟨w.heap.size + 1, 1, none⟩) (Nat.le_succ _) _
    have q0 := hp5.cell 0
    have q1 := hp5.cell 1
    clear eP eI hp g hb1 hx1 hy1 h H1 hp5
    go_enter Try.func41, Try.ntmps41
    go_wp2_with fail
    try rw [hw1]
    clear hw1
    try go_wp2
    try rw [hw5]
    clear y0 y1 f0 f1 hw5
    refine bodyPost_ret (v := .tuple #[.agg #[.string ⟨p.1.toArray⟩, .string ⟨p.2.toArray⟩], .bool true]) ?_ rfl ⟨rfl, HB5.out⟩
    rw [results_cell_tmp rfl]
    simp [go_sem, q0, q1]
  · have eP : atP L i = ([], []) := by
      unfold atP
      split
      · rw [List.getElem?_eq_none (by omega)]; rfl
      · rfl
    have eI : isP L i = false := by unfold isP; exact decide_eq_false g
    rw [eP, eI]
    obtain ⟨w5, hw5⟩ : ∃ X, (w1.setCell ⟨w.heap.size + 1, 0, none⟩ (.string ⟨#[]⟩)).setCell ⟨w.heap.size + 1, 1, none⟩ (.string ⟨#[]⟩) = X := ⟨_, rfl⟩
    have hp5 : RBox w5 (w.heap.size + 1) (.string ⟨#[]⟩) (.string ⟨#[]⟩) := by rw [← hw5]; exact hy1.set
    have HB5 : Hid (Below w.heap.size w w5) := by show Below _ _ _; rw [← hw5]; exact (hb1.setCell (p := ⟨w.heap.size + 1, 0, none⟩) (Nat.le_succ _) _).setCell (p := ⟨w.heap.size + 1, 1, none⟩) (Nat.le_succ _) _
    have q0 := hp5.cell 0
    have q1 := hp5.cell 1
    clear eP eI hb1 hx1 hy1 h H1 hp5
    by_cases g0 : i < 0
    · have g0' : decide (i < 0) = true := decide_eq_true g0
      clear g
      go_enter Try.func41, Try.ntmps41
      go_wp2_with fail
      try rw [hw1]
      clear hw1
      try go_wp2
      try rw [hw5]
      clear y0 y1 f0 f1 hw5
      refine bodyPost_ret (v := .tuple #[.agg #[.string ⟨#[]⟩, .string ⟨#[]⟩], .bool false]) ?_ rfl ⟨rfl, HB5.out⟩
      rw [results_cell_tmp rfl]
      simp [go_sem, q0, q1]
    · have g0' : decide (i < 0) = false := decide_eq_false g0
      have g2 : (L.length : Int) ≤ i := by omega
      have g2' : decide ((L.length : Int) ≤ i) = true := decide_eq_true g2
      clear g
      go_enter Try.func41, Try.ntmps41
      go_wp2_with fail
      try rw [hw1]
      clear hw1
      try go_wp2
      try rw [hw5]
      clear y0 y1 f0 f1 hw5
      refine bodyPost_ret (v := .tuple #[.agg #[.string ⟨#[]⟩, .string ⟨#[]⟩], .bool false]) ?_ rfl ⟨rfl, HB5.out⟩
      rw [results_cell_tmp rfl]
      simp [go_sem, q0, q1]
end Go.Proofs.Ytohpilamoglhcaa
