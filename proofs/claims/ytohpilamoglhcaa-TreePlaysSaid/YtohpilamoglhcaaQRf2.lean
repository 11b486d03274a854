/-
  THE DOCUMENT'S TREE: rows of its own; CONTRACT: Range.
-/
import Derived.Test.YtohpilamoglhcaaQRf
namespace Go.Proofs.Ytohpilamoglhcaa
open Go.RowKit

theorem infoR : (Try.prog.info? 100).map (fun i => (i.zero, i.size, i.bytes)) = some (some (.agg #[.string ⟨#[]⟩, .string ⟨#[]⟩]), 2, 32) := by kernel_rfl
theorem cellsR_one (p : Pr) : ∀ u ∈ cellsR p, u.oneCell' = true := by
  intro u hu
  simp only [cellsR, List.mem_cons, List.not_mem_nil, or_false] at hu
  rcases hu with rfl | rfl <;> rfl
theorem cellsR_len (M : List Pr) : (M.flatMap cellsR).length = M.length * 2 := by
  induction M with
  | nil => rfl
  | cons q r ih => rw [List.flatMap_cons, List.length_append, ih, List.length_cons]; simp [cellsR]; omega
/-- a row of pairs of strings of the call's own -/
def OwnR (w : World) (B : Nat) (v : Value) (M : List Pr) : Prop := w.ownsRow B 100 2 v M.length (M.flatMap cellsR)
theorem ownR_nil (w : World) (B : Nat) : OwnR w B (.slice none 0 0) [] := World.ownsRow_nil _ _ _ _
theorem OwnR.next {w w' : World} {B : Nat} {v : Value} {M : List Pr} (h : OwnR w B v M) (hb : Below w.heap.size w w') : OwnR w' B v M := by
  refine World.ownsRow.kept (row := none) h ⟨hb.os, hb.tape, hb.output, hb.size, fun k hk _ => hb.block k hk⟩ ?_
  rcases h.2 with ⟨rfl, _⟩ | ⟨g, cap, cur, rfl, _⟩
  · exact .inl rfl
  · exact .inr (by simp [Value.ownBlock])
theorem OwnR.form {w : World} {B : Nat} {v : Value} {M : List Pr} (h : OwnR w B v M) : ∃ A c, v = .slice A M.length c := by
  rcases h.2 with ⟨rfl, h0⟩ | ⟨g, cap, cur, rfl, _⟩
  · exact ⟨none, 0, by rw [h0]⟩
  · exact ⟨_, _, rfl⟩
theorem flatR : ∀ (M : List Pr) (i r : Nat), r < 2 → (M.flatMap cellsR)[i * 2 + r]? = (M[i]?).bind fun q => (cellsR q)[r]?
  | [], i, r, _ => by simp
  | q :: M, 0, r, hr => by
    rw [List.flatMap_cons, Nat.zero_mul, Nat.zero_add, List.getElem?_append_left (by simp [cellsR]; omega)]
    simp
  | q :: M, i + 1, r, hr => by
    rw [List.flatMap_cons, List.getElem?_append_right (by simp [cellsR]; omega)]
    have : (i + 1) * 2 + r - (cellsR q).length = i * 2 + r := by simp [cellsR]; omega
    rw [this, flatR M i r hr]
    simp
theorem OwnR.slR {w : World} {B n c : Nat} {A : Option Addr} {M : List Pr} (h : OwnR w B (.slice A n c) M) : SlR w A M := fun hM => by
  have h : w.ownsRow B 100 2 (.slice A n c) M.length (M.flatMap cellsR) := h
  rcases h.2 with ⟨e, h0⟩ | ⟨g, cap, cur, e, _, hgb, _⟩
  · exact absurd (List.length_eq_zero_iff.1 h0) hM
  · injection e with e1 e2 e3
    subst e1 e2 e3
    refine ⟨g, 0, rfl, ⟨_, _, hgb⟩, fun j p hp => ?_⟩
    have hj := (List.getElem?_eq_some_iff.1 hp).1
    constructor
    · have := h.cellAt (j * 2 + 0) (by omega)
      rw [flatR M j 0 (by decide), hp] at this
      simpa [cellsR] using this
    · have := h.cellAt (j * 2 + 1) (by omega)
      rw [flatR M j 1 (by decide), hp] at this
      simpa [cellsR] using this
theorem ownR_step {w wr w3 : World} {v v' : Value} {M : List Pr} {p : Pr} (ho : OwnR wr w.heap.size v M) (hl : Below w.heap.size w wr) (hown : w3.ownsRow w.heap.size 100 2 v' (M.length + 1) (M.flatMap cellsR ++ cellsR p)) (hg : (wr.alloc (.cells #[.string ⟨p.1.toArray⟩, .string ⟨p.2.toArray⟩] 100)).grownBy w3 v.ownBlock) :
    OwnR w3 w.heap.size v' (M ++ [p]) ∧ Below w.heap.size w w3 ∧ ∀ b t u, t ≠ 100 → Boxed wr b t u → Boxed w3 b t u := by
  have hb : Below wr.heap.size wr (wr.alloc (.cells #[.string ⟨p.1.toArray⟩, .string ⟨p.2.toArray⟩] 100)) := (Below.refl _ _).alloc (Nat.le_refl _) _
  refine ⟨?_, (hl.trans (hb.mono hl.size)).grown hg (Nat.le_trans hl.size hb.size) (fun k hk => (World.ownsRow.lt ho k hk).1), fun b t u ht hx => (hx.alloc _).kept hg (hx.not_row ht ho)⟩
  unfold OwnR
  rw [List.length_append, List.flatMap_append]
  simpa using hown
/-- what the document's calls that make rows leave -/
def RowEnd (w : World) (M : List Pr) (e : Ending) (w' : World) : Prop := ∃ A c, e = .returned (.slice A M.length c) ∧ SlR w' A M ∧ Below w.heap.size w w'
def okR (k to : By) (most : Int) (M : List Pr) (p : Pr) : Bool := decide ((M.length : Int) < most) && decide (0 ≤ ordL p.1 k) && (to.isEmpty || decide (ordL p.1 to = -1))
def rgR (k to : By) (most : Int) (L : List Pr) : List Pr := L.foldl (fun M p => if okR k to most M p then M ++ [p] else M) []
theorem rgL_zero (to : By) {m : Int} (l : List Pr) (h : m ≤ 0) : rgL to m l = [] := by
  cases l with
  | nil => rfl
  | cons p l => unfold rgL; rw [if_pos (.inl h)]
theorem rgL_over {to : By} (h0 : to ≠ []) {m : Int} {l : List Pr} (h : ∀ q ∈ l, 0 ≤ ordL q.1 to) : rgL to m l = [] := by
  cases l with
  | nil => rfl
  | cons p l => unfold rgL; rw [if_pos (.inr ⟨h0, h p (by simp)⟩)]
theorem rgR_go (k to : By) (most : Int) : ∀ (L M : List Pr), Rise L → L.foldl (fun M p => if okR k to most M p then M ++ [p] else M) M = M ++ rgL to (most - M.length) (fromL k L)
  | [], M, _ => by simp [fromL, rgL]
  | p :: L, M, hR => by
    have hR2 : Rise L := (List.pairwise_cons.1 hR).2
    have h4 : ∀ q ∈ L, Lt p q := (List.pairwise_cons.1 hR).1
    rw [List.foldl_cons]
    by_cases g1 : 0 ≤ ordL p.1 k
    · have ef : fromL k (p :: L) = p :: fromL k L := by unfold fromL; rw [List.filter_cons_of_pos (by simpa using g1)]
      rw [ef]
      by_cases g2 : most - M.length ≤ 0
      · have e1 : okR k to most M p = false := by unfold okR; rw [decide_eq_false (by omega)]; rfl
        rw [e1, if_neg Bool.false_ne_true, rgR_go k to most L M hR2, rgL_zero to _ g2, rgL_zero to _ g2]
      · by_cases g3 : to ≠ [] ∧ 0 ≤ ordL p.1 to
        · have e1 : okR k to most M p = false := by
            unfold okR
            rw [decide_eq_false (show ¬ ordL p.1 to = -1 by omega), show to.isEmpty = false by cases to <;> simp_all]
            simp
          rw [e1, if_neg Bool.false_ne_true, rgL_over g3.1 (l := p :: fromL k L) (fun q hq => by
            rcases List.mem_cons.1 hq with rfl | hq
            · exact g3.2
            · exact qo_ge_trans g3.2 (h4 q ((List.mem_filter.1 hq).1)))]
          have := rgR_go k to most L M hR2
          rw [rgL_over g3.1 (l := fromL k L) (fun q hq => qo_ge_trans g3.2 (h4 q ((List.mem_filter.1 hq).1)))] at this
          exact this
        · have e1 : okR k to most M p = true := by
            unfold okR
            rw [decide_eq_true (by omega), decide_eq_true g1]
            by_cases g4 : to = []
            · subst g4; rfl
            · have : ordL p.1 to = -1 := by have := ordL_range p.1 to; have h5 : ¬ 0 ≤ ordL p.1 to := fun h => g3 ⟨g4, h⟩; omega
              rw [decide_eq_true this]
              simp
          rw [e1, if_pos rfl, rgR_go k to most L (M ++ [p]) hR2]
          conv => rhs; unfold rgL
          rw [if_neg (by rintro (h | h); exact g2 h; exact g3 h), List.append_assoc, List.length_append, List.length_singleton]
          simp only [List.singleton_append]
          congr 3
          omega
    · have ef : fromL k (p :: L) = fromL k L := by unfold fromL; rw [List.filter_cons_of_neg (by simpa using g1)]
      have e1 : okR k to most M p = false := by unfold okR; rw [decide_eq_false g1]; simp
      rw [ef, e1, if_neg Bool.false_ne_true]
      exact rgR_go k to most L M hR2
theorem rgR_is (k to : By) (most : Int) {L : List Pr} (hR : Rise L) : rgR k to most L = rgL to most (fromL k L) := by
  have := rgR_go k to most L [] hR
  simpa [rgR] using this
theorem rgR_take (k to : By) (most : Int) {L : List Pr} {j : Nat} {p : Pr} (hp : L[j]? = some p) : rgR k to most (L.take (j + 1)) = if okR k to most (rgR k to most (L.take j)) p then rgR k to most (L.take j) ++ [p] else rgR k to most (L.take j) := by
  rw [List.take_add_one, hp]
  unfold rgR
  rw [List.foldl_append]
  rfl
theorem rgR_len (k to : By) (most : Int) : ∀ (L M : List Pr), (L.foldl (fun M p => if okR k to most M p then M ++ [p] else M) M).length ≤ M.length + L.length
  | [], M => by simp
  | p :: L, M => by
    rw [List.foldl_cons]
    split
    · have := rgR_len k to most L (M ++ [p])
      simp at this ⊢
      omega
    · have := rgR_len k to most L M
      simp at this ⊢
      omega
set_option maxRecDepth 100000 in
set_option maxHeartbeats 4000000 in
theorem rangeR_any (A : Option Addr) (c : Nat) (L : List Pr) (k to : By) (most : Int) (w : World) (h : SlR w A L) (hl : L.length ≤ 1000000) (hR : Rise L) (_hm0 : -9223372036854775808 ≤ most) (_hm1 : most ≤ 9223372036854775807) :
    Calls Try.prog 45 #[.agg #[.slice A L.length c], .string ⟨k.toArray⟩, .string ⟨to.toArray⟩, .int .i64 most] w (RowEnd w (rgL to most (fromL k L))) := by
  obtain ⟨i0, hi, hz0, hz1, hz2⟩ := info_parts infoR
  have H := Lib.hid h
  have HRI := Lib.hid (rgR_is k to most hR)
  clear h hR
  obtain ⟨w1, hw1⟩ : ∃ X, w.alloc (.cells #[.slice A L.length c] 54) = X := ⟨_, rfl⟩
  have HB1 : Hid (Below w.heap.size w w1) := by show Below _ _ _; rw [← hw1]; exact (Below.refl _ _).alloc (Nat.le_refl _) _
  have HX1 : Hid (Boxed w1 w.heap.size 54 (.slice A L.length c)) := by show Boxed _ _ _ _; rw [← hw1]; exact Boxed.new w _ _
  go_enter Try.func45, Try.ntmps45
  go_wp2_with fail
  try rw [hw1]
  clear hw1
  go_loopg [9, 10] L.length (fun gk x y wr => ∃ (j : Nat), y = .int .i64 (j : Nat) ∧ j + gk = L.length ∧ Hid (OwnR wr w.heap.size x (rgR k to most (L.take j))) ∧ Hid (Below w.heap.size w wr) ∧ Hid (Boxed wr w.heap.size 54 (.slice A L.length c)))
  case atStart => exact ⟨0, rfl, by omega, ownR_nil _ _, HB1.out, HX1.out⟩
  case round =>
    obtain ⟨j, rfl, hj, HO, HB, HX⟩ := hrel
    have b0 := HX.out.cell
    obtain ⟨Ao, co, rfl⟩ := HO.out.form
    cases gk with
    | zero =>
      have hjz : ¬ ((j : Int) < (L.length : Int)) := by omega
      have hjz' : decide ((j : Int) < (L.length : Int)) = false := decide_eq_false hjz
      have e1 : rgR k to most (L.take j) = rgL to most (fromL k L) := by rw [List.take_of_length_le (by omega)]; exact HRI.out
      rw [e1] at HO ⊢
      have HF : Hid (RowEnd w (rgL to most (fromL k L)) (.returned (.slice Ao (rgL to most (fromL k L)).length co)) wr) := ⟨Ao, co, rfl, HO.out.slR, HB.out⟩
      clear e1
      go_wp2
      go_ret
      exact HF.out
    | succ gk =>
      have hjz : ((j : Int) < (L.length : Int)) := by omega
      have hjz' : decide ((j : Int) < (L.length : Int)) = true := decide_eq_true hjz
      have hj0 : (0 : Int) ≤ (j : Int) := by omega
      obtain ⟨g, o, p, rfl, hp, hlt, hc, hc2⟩ := (H.out.next HB.out).at_ (j := j) (by omega)
      have HRT := Lib.hid (rgR_take k to most hp)
      have HLN : Hid ((rgR k to most (L.take j)).length ≤ 1000000) := by show _ ≤ _; have := rgR_len k to most (L.take j) []; rw [List.length_take] at this; have h2 : (rgR k to most (L.take j)).length ≤ 0 + min j L.length := this; omega
      obtain ⟨M, hM⟩ : ∃ M, rgR k to most (L.take j) = M := ⟨_, rfl⟩
      rw [hM] at HRT HO HLN ⊢
      obtain ⟨m, hm⟩ : ∃ m, M.length = m := ⟨_, rfl⟩
      have HM := Lib.hid hm
      have HOm := HO
      rw [hm] at HOm
      rw [hm] at HLN ⊢
      clear hp hM hm HO
      have HO := HOm
      clear HOm
      have hEQ : okR k to most M p = (decide ((m : Int) < most) && decide (0 ≤ ordL p.1 k) && (to.isEmpty || decide (ordL p.1 to = -1))) := by unfold okR; rw [HM.out]
      have HEQ := Lib.hid hEQ
      clear hEQ
      by_cases g1 : (m : Int) < most
      · have g1' : decide ((m : Int) < most) = true := decide_eq_true g1
        by_cases g2 : 0 ≤ ordL p.1 k
        · have hb : Op.bytesLess p.1 k = false := bless_ge g2
          have g2' : decide (0 ≤ ordL p.1 k) = true := decide_eq_true g2
          by_cases g3 : to = []
          · have g3' : (to == []) = true := by rw [g3]; rfl
            have g3e : to.isEmpty = true := by rw [g3]; rfl
            have HE : Hid (rgR k to most (L.take (j + 1)) = M ++ [p]) := by show _ = _; rw [HRT.out, HEQ.out, g1', g2', g3e, if_pos (by rfl)]
            have hoa : (wr.alloc (.cells #[.string ⟨p.1.toArray⟩, .string ⟨p.2.toArray⟩] 100)).ownsRow w.heap.size 100 2 (.slice Ao m co) m (M.flatMap cellsR) := by have h9 := World.ownsRow.alloc (show wr.ownsRow w.heap.size 100 2 (.slice Ao m co) M.length (M.flatMap cellsR) from HO.out) (.cells #[.string ⟨p.1.toArray⟩, .string ⟨p.2.toArray⟩] 100); rw [HM.out] at h9; exact h9
            have HOA := Lib.hid hoa
            have HBS : Hid (w.heap.size ≤ (wr.alloc (.cells #[.string ⟨p.1.toArray⟩, .string ⟨p.2.toArray⟩] 100)).heap.size) := by show _ ≤ _; have := HB.out.size; simp; omega
            have HBN1 : Hid (m + 1 ≤ maxLen) := by show _ ≤ _; have := HLN.out; have : 2000000 ≤ maxLen := (by decide); omega
            have HBN2 : Hid ((m + 1) * 32 ≤ 140737488355328) := by show _ ≤ _; have := HLN.out; omega
            clear hoa
            clear g2 g2' g3e g3
            go_wp2_with (at_builtin; refine wpList_append_own _ rfl _ _ 52 rfl w.heap.size 100 i0 (.agg #[.string ⟨#[]⟩, .string ⟨#[]⟩]) 2 32 Try.underlying52 hi hz0 hz1 hz2 rfl (by decide) _ _ _ rfl HOA.out ⟨wr.heap.size, 0, none⟩ 1 1 (cellsR p) rfl rfl (fun j u h => cell_lit wr #[.string ⟨p.1.toArray⟩, .string ⟨p.2.toArray⟩] 100 j u h) (cellsR_one _) HBN1.out HBN2.out HBS.out ?_; intro v3 w3 hown hgrow _; have hst := ownR_step HO.out HB.out (by rw [HM.out]; exact hown) hgrow; have HO3 := Lib.hid hst.1; have HB3 := Lib.hid hst.2.1; have HX3 := Lib.hid (hst.2.2 _ _ _ (by decide) HX.out); clear hown hgrow hst)
            go_roundg gk
            case measure => omega
            case rel => exact ⟨j + 1, by go_num, by omega, by rw [HE.out]; exact HO3.out, HB3.out, HX3.out⟩
          · have g3' : (to == []) = false := beq_eq_false_iff_ne.2 g3
            have g3e : to.isEmpty = false := by cases to <;> simp_all
            by_cases g4 : ordL p.1 to = -1
            · have hb2 : Op.bytesLess p.1 to = true := bless_lt g4
              have HE : Hid (rgR k to most (L.take (j + 1)) = M ++ [p]) := by show _ = _; rw [HRT.out, HEQ.out, g1', g2', g3e, decide_eq_true g4, if_pos (by rfl)]
              have hoa : (wr.alloc (.cells #[.string ⟨p.1.toArray⟩, .string ⟨p.2.toArray⟩] 100)).ownsRow w.heap.size 100 2 (.slice Ao m co) m (M.flatMap cellsR) := by have h9 := World.ownsRow.alloc (show wr.ownsRow w.heap.size 100 2 (.slice Ao m co) M.length (M.flatMap cellsR) from HO.out) (.cells #[.string ⟨p.1.toArray⟩, .string ⟨p.2.toArray⟩] 100); rw [HM.out] at h9; exact h9
              have HOA := Lib.hid hoa
              have HBS : Hid (w.heap.size ≤ (wr.alloc (.cells #[.string ⟨p.1.toArray⟩, .string ⟨p.2.toArray⟩] 100)).heap.size) := by show _ ≤ _; have := HB.out.size; simp; omega
              have HBN1 : Hid (m + 1 ≤ maxLen) := by show _ ≤ _; have := HLN.out; have : 2000000 ≤ maxLen := (by decide); omega
              have HBN2 : Hid ((m + 1) * 32 ≤ 140737488355328) := by show _ ≤ _; have := HLN.out; omega
              clear hoa
              clear g2 g2' g3e g4
              go_wp2_with (at_builtin; refine wpList_append_own _ rfl _ _ 52 rfl w.heap.size 100 i0 (.agg #[.string ⟨#[]⟩, .string ⟨#[]⟩]) 2 32 Try.underlying52 hi hz0 hz1 hz2 rfl (by decide) _ _ _ rfl HOA.out ⟨wr.heap.size, 0, none⟩ 1 1 (cellsR p) rfl rfl (fun j u h => cell_lit wr #[.string ⟨p.1.toArray⟩, .string ⟨p.2.toArray⟩] 100 j u h) (cellsR_one _) HBN1.out HBN2.out HBS.out ?_; intro v3 w3 hown hgrow _; have hst := ownR_step HO.out HB.out (by rw [HM.out]; exact hown) hgrow; have HO3 := Lib.hid hst.1; have HB3 := Lib.hid hst.2.1; have HX3 := Lib.hid (hst.2.2 _ _ _ (by decide) HX.out); clear hown hgrow hst)
              go_roundg gk
              case measure => omega
              case rel => exact ⟨j + 1, by go_num, by omega, by rw [HE.out]; exact HO3.out, HB3.out, HX3.out⟩
            · have hb2 : Op.bytesLess p.1 to = false := bless_ge (by have := ordL_range p.1 to; omega)
              have HE : Hid (rgR k to most (L.take (j + 1)) = M) := by show _ = _; rw [HRT.out, HEQ.out, g1', g2', g3e, decide_eq_false g4, if_neg (by decide)]
              clear g2 g2' g3e g4
              go_wp2
              go_roundg gk
              case measure => omega
              case rel => exact ⟨j + 1, by go_num, by omega, by rw [HE.out]; exact HO.out, HB.out, HX.out⟩
        · have hb : Op.bytesLess p.1 k = true := bless_lt (by have := ordL_range p.1 k; omega)
          have HE : Hid (rgR k to most (L.take (j + 1)) = M) := by show _ = _; rw [HRT.out, HEQ.out, g1', decide_eq_false g2, Bool.and_false, Bool.false_and, if_neg Bool.false_ne_true]
          clear g2
          go_wp2
          go_roundg gk
          case measure => omega
          case rel => exact ⟨j + 1, by go_num, by omega, by rw [HE.out]; exact HO.out, HB.out, HX.out⟩
      · have g1' : decide ((m : Int) < most) = false := decide_eq_false g1
        have HE : Hid (rgR k to most (L.take (j + 1)) = M) := by show _ = _; rw [HRT.out, HEQ.out, g1', Bool.false_and, Bool.false_and, if_neg Bool.false_ne_true]
        go_wp2
        go_roundg gk
        case measure => omega
        case rel => exact ⟨j + 1, by go_num, by omega, by rw [HE.out]; exact HO.out, HB.out, HX.out⟩
end Go.Proofs.Ytohpilamoglhcaa
