/-
  THE DOCUMENT'S TREE: a list of pairs of strings; CONTRACTS: Rank, Has, At.
-/
import Derived.Test.YtohpilamoglhcaaQEqu
namespace Go.Proofs.Ytohpilamoglhcaa
open Go.RowKit

def strP (l : By) : Value := .string ⟨l.toArray⟩
def cellsR (p : Pr) : List Value := [.string ⟨p.1.toArray⟩, .string ⟨p.2.toArray⟩]
/-- a slice that reads as pairs of strings -/
def SlR (w : World) (A : Option Addr) (L : List Pr) : Prop :=
  L ≠ [] → ∃ g o, A = some ⟨g, o, none⟩ ∧ (∃ cs fr, w.heap[g]? = some (.cells cs 100 fr)) ∧ ∀ (j : Nat) (p : Pr), L[j]? = some p → w.cell? ⟨g, o + j * 2, none⟩ = some (.string ⟨p.1.toArray⟩) ∧ w.cell? ⟨g, o + j * 2 + 1, none⟩ = some (.string ⟨p.2.toArray⟩)
theorem SlR.next {w w' : World} {A : Option Addr} {L : List Pr} (h : SlR w A L) (hb : Below w.heap.size w w') : SlR w' A L := fun hl => by
  obtain ⟨g, o, e, ⟨cs, fr, hg⟩, hc⟩ := h hl
  have hlt : g < w.heap.size := (Array.getElem?_eq_some_iff.1 hg).1
  exact ⟨g, o, e, ⟨cs, fr, (hb.block g hlt).trans hg⟩, fun j p hp => ⟨(hb.cell (p := ⟨g, o + j * 2, none⟩) hlt).trans (hc j p hp).1, (hb.cell (p := ⟨g, o + j * 2 + 1, none⟩) hlt).trans (hc j p hp).2⟩⟩
theorem SlR.at_ {w : World} {A : Option Addr} {L : List Pr} (h : SlR w A L) {j : Nat} (hj : j < L.length) : ∃ g o p, A = some ⟨g, o, none⟩ ∧ L[j]? = some p ∧ g < w.heap.size ∧ w.cell? ⟨g, o + j * 2, none⟩ = some (.string ⟨p.1.toArray⟩) ∧ w.cell? ⟨g, o + j * 2 + 1, none⟩ = some (.string ⟨p.2.toArray⟩) := by
  obtain ⟨g, o, e, ⟨cs, fr, hg⟩, hc⟩ := h (fun e => by rw [e] at hj; simp at hj)
  exact ⟨g, o, L[j], e, List.getElem?_eq_getElem hj, (Array.getElem?_eq_some_iff.1 hg).1, hc j _ (List.getElem?_eq_getElem hj)⟩
theorem rank_take {L : List Pr} {j : Nat} {p : Pr} (k : By) (hp : L[j]? = some p) : rankL (L.take (j + 1)) k = rankL (L.take j) k + (if ordL p.1 k = -1 then 1 else 0) := by
  rw [List.take_add_one, hp, rank_app]
  congr 1
  show rankL [p] k = _
  rw [rank_cons]
  rfl
set_option maxRecDepth 100000 in
set_option maxHeartbeats 2000000 in
theorem rankR_any (A : Option Addr) (c : Nat) (L : List Pr) (k : By) (w : World) (h : SlR w A L) (hl : L.length ≤ 1000000) :
    Calls Try.prog 36 #[.agg #[.slice A L.length c], .string ⟨k.toArray⟩] w fun e w' => e = .returned (.int .i64 (rankL L k : Nat)) ∧ Below w.heap.size w w' := by
  have H := Lib.hid h
  clear h
  obtain ⟨w1, hw1⟩ : ∃ X, w.alloc (.cells #[.slice A L.length c] 54) = X := ⟨_, rfl⟩
  have HB1 : Hid (Below w.heap.size w w1) := by show Below _ _ _; rw [← hw1]; exact (Below.refl _ _).alloc (Nat.le_refl _) _
  have HX1 : Hid (w1.cell? ⟨w.heap.size, 0, none⟩ = some (.slice A L.length c)) := by show _ = _; rw [← hw1]; exact (Boxed.new w _ _).cell
  have b0 := HX1.out
  go_enter Try.func36, Try.ntmps36
  go_wp2_with fail
  try rw [hw1]
  clear hw1
  go_loopg [5, 6] L.length (fun gk x y wr => ∃ (j : Nat), y = .int .i64 (j : Nat) ∧ x = .int .i64 (rankL (L.take j) k : Nat) ∧ j + gk = L.length ∧ wr = w1)
  case atStart => exact ⟨0, rfl, rfl, by omega, rfl⟩
  case round =>
    obtain ⟨j, rfl, rfl, hj, rfl⟩ := hrel
    cases gk with
    | zero =>
      have hjz : ¬ ((j : Int) < (L.length : Int)) := by omega
      have hjz' : decide ((j : Int) < (L.length : Int)) = false := decide_eq_false hjz
      have HF : Hid (Ending.returned (.int .i64 (rankL (L.take j) k : Nat)) = Ending.returned (.int .i64 (rankL L k : Nat))) := by show _ = _; rw [List.take_of_length_le (by omega)]
      go_wp2
      go_ret
      exact ⟨HF.out, HB1.out⟩
    | succ gk =>
      have hjz : ((j : Int) < (L.length : Int)) := by omega
      have hjz' : decide ((j : Int) < (L.length : Int)) = true := decide_eq_true hjz
      have hj0 : (0 : Int) ≤ (j : Int) := by omega
      obtain ⟨g, o, p, rfl, hp, hlt, hc, _⟩ := (H.out.next HB1.out).at_ (j := j) (by omega)
      have hr : rankL (L.take j) k ≤ 1000000 := by have := rank_le (L.take j) k; rw [List.length_take] at this; omega
      have HRT := Lib.hid (rank_take k hp)
      obtain ⟨r, hrr⟩ : ∃ r, rankL (L.take j) k = r := ⟨_, rfl⟩
      have HRR := Lib.hid hrr
      rw [hrr] at hr HRT ⊢
      clear hp hrr
      by_cases g1 : ordL p.1 k = -1
      · have hb : Op.bytesLess p.1 k = true := bless_lt g1
        have HE : Hid (rankL (L.take (j + 1)) k = r + 1) := by show _ = _; rw [HRT.out, if_pos g1]
        clear g1
        go_wp2
        go_roundg gk
        case measure => omega
        case rel => exact ⟨j + 1, by go_num, by rw [HE.out]; go_num, by omega, rfl⟩
      · have hb : Op.bytesLess p.1 k = false := bless_ge (by have := ordL_range p.1 k; omega)
        have HE : Hid (rankL (L.take (j + 1)) k = r) := by show _ = _; rw [HRT.out, if_neg g1]; rfl
        clear g1
        go_wp2
        go_roundg gk
        case measure => omega
        case rel => exact ⟨j + 1, by go_num, by rw [HE.out], by omega, rfl⟩
/-- does the document's tree have a key? -/
def hasR (L : List Pr) (k : By) : Bool := match L[rankL L k]? with | some p => p.1 == k | none => false
set_option maxRecDepth 100000 in
set_option maxHeartbeats 2000000 in
theorem hasR_any (A : Option Addr) (c : Nat) (L : List Pr) (k : By) (w : World) (h : SlR w A L) (hl : L.length ≤ 1000000) :
    Calls Try.prog 35 #[.agg #[.slice A L.length c], .string ⟨k.toArray⟩] w fun e w' => e = .returned (.bool (hasR L k)) ∧ Below w.heap.size w w' := by
  obtain ⟨w1, hw1⟩ : ∃ X, w.alloc (.cells #[.slice A L.length c] 54) = X := ⟨_, rfl⟩
  have hb1 : Below w.heap.size w w1 := by rw [← hw1]; exact (Below.refl _ _).alloc (Nat.le_refl _) _
  have hx1 : Boxed w1 w.heap.size 54 (.slice A L.length c) := by rw [← hw1]; exact Boxed.new w _ _
  have b0 := hx1.cell
  have HX := Lib.hid hx1
  have HB1 := Lib.hid hb1
  have HR := Lib.hid (rankR_any A c L k w1 (h.next hb1) hl)
  have H1 := Lib.hid (h.next hb1)
  clear h hx1 hb1
  go_enter Try.func35, Try.ntmps35
  go_wp2_with fail
  try rw [hw1]
  clear hw1
  refine HR.out.mono ?_
  rintro e w2 ⟨rfl, hb2⟩
  have b2 := (hb2.cell (p := ⟨w.heap.size, 0, none⟩) HX.out.lt).trans b0
  have HB2 := Lib.hid (HB1.out.trans (hb2.mono HB1.out.size))
  have H2 := Lib.hid (H1.out.next hb2)
  obtain ⟨r, hr⟩ : ∃ r, rankL L k = r := ⟨_, rfl⟩
  have HRK := Lib.hid hr
  rw [hr]
  clear b0 hb2 HR hr
  by_cases g1 : r < L.length
  · obtain ⟨g, o, p, rfl, hp, hlt, hc, _⟩ := H2.out.at_ (j := r) g1
    have HH : Hid (hasR L k = (p.1 == k)) := by show _ = _; unfold hasR; rw [HRK.out, hp]
    have g2 : (r : Int) < (L.length : Int) := by omega
    have g2' : decide ((r : Int) < (L.length : Int)) = true := decide_eq_true g2
    have g0 : (0 : Int) ≤ (r : Int) := by omega
    clear hp
    go_wp2
    go_ret
    exact ⟨by rw [HH.out]; rfl, HB2.out⟩
  · have HH : Hid (hasR L k = false) := by show _ = _; unfold hasR; rw [HRK.out, List.getElem?_eq_none (by omega)]
    have g2 : ¬ (r : Int) < (L.length : Int) := by omega
    have g2' : decide ((r : Int) < (L.length : Int)) = false := decide_eq_false g2
    go_wp2
    go_ret
    exact ⟨by rw [HH.out]; rfl, HB2.out⟩
end Go.Proofs.Ytohpilamoglhcaa
