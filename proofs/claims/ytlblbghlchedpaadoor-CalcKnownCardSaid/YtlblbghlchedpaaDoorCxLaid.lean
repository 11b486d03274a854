/-
  THE WORLD IN WHICH THE FAMILIES LIE, and what the list gives.
-/
import Derived.Test.YtlblbghlchedpaaDoorCxArgs
import Derived.Deep.DeepHandedRow
import Derived.Deep.DeepWitnessRowRef
import Derived.Lib.LaidTab
import Derived.Lay
import Derived.RowKitTokens
namespace Go.Proofs.YtlblbghlchedpaaDoor
open Go.ChangeShapes Go.WideShapes Go.ChangeAt Go.RowKit Go.Joins Go.Deep

theorem gFam : Tryd.prog.globalNamed "daybook/calc.families" = some 0 := by kernel_rfl
theorem gFamType : (Tryd.prog.globals[0]?).map (·.type) = some 39 := by kernel_rfl
theorem cellsFam : Tryd.prog.cellsOf 39 = 12 := by kernel_rfl
theorem cellsF3 : Tryd.prog.cellsOf 38 = 3 := by kernel_rfl
theorem cellsSl : Tryd.prog.cellsOf 24 = 1 := by kernel_rfl
theorem bytes_of {s : ByteArray} {l : List UInt8} (h : s.data.toList = l) : s = strB l := by
  obtain ⟨a⟩ := s
  simp only at h
  unfold strB
  rw [← h, Array.toArray_toList]
section
variable {H : Type} {enc : TypeId × Value → H}
set_option maxRecDepth 100000 in
/-- a family's three cells -/
theorem fam_cells {W : World} {base : Nat} {spare : Nat → Bool} {held : Bool} {n : Nat} {cs : List Value} {Pl : List MemPlace} {bb : Bool} {t : Int} {L : List Bt} (hne : L ≠ [])
    (h : DataW.trod enc Tryd.prog W base spare held n 38 cs = some (.agg [.lit (.bool bb), .lit (.int .i64 t), .slice (L.map fun s => .lit (.string s)) []], Pl)) :
    ∃ b o c, cs = [.bool bb, .int .i64 t, .slice (some ⟨b, o, none⟩) L.length c] ∧ b < W.heap.size ∧ ∀ (j : Nat) (s : Bt), L[j]? = some s → W.cell? ⟨b, o + j, none⟩ = some (.string (strB s)) := by
  obtain ⟨ys, n2, _, hy, hlen, hyl, hg⟩ := DataW.trod_struct Tryd.underlying38 h
  rw [cellsF3] at hlen
  match cs, hlen with
  | [c0, c1, c2], _ =>
    match ys, hyl with
    | [y0, y1, y2], _ =>
      have g0 : DataW.trod enc Tryd.prog W base spare held n2 4 ((([c0, c1, c2] : List Value).drop 0).take (Tryd.prog.cellsOf 4)) = some y0 := hg 0 _ rfl
      rw [cellsB] at g0
      have g1 : DataW.trod enc Tryd.prog W base spare held n2 3 ((([c0, c1, c2] : List Value).drop 1).take (Tryd.prog.cellsOf 3)) = some y1 := hg 1 _ rfl
      rw [cellsI] at g1
      have g2 : DataW.trod enc Tryd.prog W base spare held n2 24 ((([c0, c1, c2] : List Value).drop 2).take (Tryd.prog.cellsOf 24)) = some y2 := hg 2 _ rfl
      rw [cellsSl] at g2
      have hd := DataW.agg.inj (Prod.mk.inj hy).1
      simp only [List.map_cons, List.map_nil] at hd
      obtain ⟨bv, f0, rfl, _⟩ := DataW.trod_bool Tryd.underlying4 g0
      obtain ⟨m, f1, rfl, _⟩ := DataW.trod_int Tryd.underlying3 g1
      simp at f0 f1
      subst f0 f1
      have g2' : DataW.trod enc Tryd.prog W base spare held n2 24 [c2] = some y2 := g2
      rcases open_slice1 Tryd.underlying24 cellsStr g2' with ⟨hcs, hx⟩ | ⟨a, len, cap, mm, n3, V, D, Pm, hcs, _, hl, hcm, hm, hx, hi⟩
      · rw [hx] at hd
        simp at hd
      · rw [hx] at hd
        injection hd with e0 hd
        injection hd with e1 hd
        injection hd with e2 _
        simp only at e0 e1 e2
        obtain rfl := Lit.bool.inj (DataW.lit.inj e0)
        obtain ⟨_, rfl⟩ := Lit.int.inj (DataW.lit.inj e1)
        obtain ⟨e3, _⟩ := DataW.slice.inj e2
        have hlL : L.length = len := by have := congrArg List.length e3; simpa using this
        have hmm : len ≤ mm := by rw [hm]; split <;> omega
        obtain ⟨rfl⟩ : c2 = .slice (some a) len cap := by simpa using hcs
        have each : ∀ (j : Nat) (s : Bt), L[j]? = some s → W.cell? (a.add j) = some (.string (strB s)) := fun j s hs => by
          have hj : j < len := by have := (List.getElem?_eq_some_iff.1 hs).1; omega
          obtain ⟨hc, ht⟩ := hi j (by omega)
          obtain ⟨s', f2, hxx, _⟩ := DataW.trod_string Tryd.underlying9 ht
          simp at f2
          have h5 := congrArg (·[j]?) e3
          simp only [List.getElem?_map, hs, Option.map_some, List.getElem?_range hj] at h5
          have h6 : DataW.lit (.string s) = D j := Option.some.inj h5
          have h7 : D j = .lit (.string s'.data.toList) := (Prod.mk.inj hxx).1
          rw [h7] at h6
          have h8 := Lit.string.inj (DataW.lit.inj h6)
          rw [hc, f2, bytes_of h8.symm]
        obtain ⟨ab, ao, spot⟩ := a
        obtain ⟨s0, hs0⟩ : ∃ s0, L[0]? = some s0 := by
          cases L with
          | nil => exact absurd rfl hne
          | cons x r => exact ⟨x, rfl⟩
        have hc0 := each 0 s0 hs0
        have hspot : spot = none := by simpa [Addr.add] using World.cell?_spot hc0
        subst hspot
        have hb := cell_lt hc0
        rw [add_block] at hb
        have hadd : ∀ i, (⟨ab, ao, none⟩ : Addr).add i = ⟨ab, ao + i, none⟩ := fun i => by
          unfold Addr.add
          split <;> simp_all
        exact ⟨ab, ao, cap, by rw [hlL], hb, fun j s hs => by have := each j s hs; rwa [hadd] at this⟩
end
def famD (k : Nat) : DataW Unit := .agg [.lit (.bool (famP k)), .lit (.int .i64 (famT k)), .slice ((famN k).map fun s => .lit (.string s)) []]
theorem laid_is : (Rows.laid_daybook_calc_families : DataW Unit) = .agg [famD 0, famD 1, famD 2, famD 3] := rfl
/-- what the list gives -/
theorem fam_laid {W : World} {rest : List (String × DataW Unit)} (h : laidMet Tryd.prog (("daybook/calc.families", Rows.laid_daybook_calc_families) :: rest) W) : FamAt W W.heap.size := by
  rw [laid_is] at h
  obtain ⟨ps, ⟨g', t', cs, fuel, p, q, hg', ht', hvar, hd, _, _⟩, _⟩ := h
  obtain rfl := Option.some.inj (gFam.symm.trans hg')
  obtain rfl := Option.some.inj (gFamType.symm.trans ht')
  obtain ⟨xs, m, _, ex, hlen, hl, hel⟩ := DataW.trod_array Tryd.underlying39 hd
  rw [cellsFam] at hlen
  rw [cellsF3] at hel
  have e3 := (DataW.agg.inj (Prod.mk.inj ex).1)
  have hk : ∀ k : Nat, k < 4 → ∃ b o c, (cs.toList.drop (k * 3)).take 3 = [.bool (famP k), .int .i64 (famT k), .slice (some ⟨b, o, none⟩) (famN k).length c] ∧ b < W.heap.size ∧ ∀ (j : Nat) (s : Bt), (famN k)[j]? = some s → W.cell? ⟨b, o + j, none⟩ = some (.string (strB s)) := by
    intro k hk
    obtain ⟨x, hx⟩ : ∃ x, xs[k]? = some x := ⟨xs[k]'(by omega), List.getElem?_eq_getElem _⟩
    have hk1 := hel k hk
    rw [hx] at hk1
    have h2 := congrArg (·[k]?) e3
    simp only [List.getElem?_map, hx, Option.map_some] at h2
    have h5 : k = 0 ∨ k = 1 ∨ k = 2 ∨ k = 3 := by omega
    obtain ⟨x1, x2⟩ := x
    have hxx : x1 = famD k := by
      rcases h5 with rfl | rfl | rfl | rfl <;> exact (Option.some.inj h2).symm
    subst hxx
    exact fam_cells (by rcases h5 with rfl | rfl | rfl | rfl <;> decide) hk1
  have hc : ∀ (k i : Nat) (v : Value), k < 4 → i < 3 → ((cs.toList.drop (k * 3)).take 3)[i]? = some v → W.cell? ⟨0, k * 3 + i, none⟩ = some v := by
    intro k i v hk hi hv
    rw [World.var?_cell gFam hvar (k * 3 + i)]
    rw [List.getElem?_take, if_pos hi, List.getElem?_drop] at hv
    simpa using hv
  refine ⟨?_, fun k hkk => ?_, fun k hkk => ?_, fun k hkk => ?_⟩
  · obtain ⟨b, o, c, h1, _, _⟩ := hk 0 (by decide)
    exact cell_lt (hc 0 0 _ (by decide) (by decide) (by rw [h1]; rfl))
  · obtain ⟨b, o, c, h1, _, _⟩ := hk k hkk
    exact hc k 0 _ hkk (by decide) (by rw [h1]; rfl)
  · obtain ⟨b, o, c, h1, _, _⟩ := hk k hkk
    exact hc k 1 _ hkk (by decide) (by rw [h1]; rfl)
  · obtain ⟨b, o, c, h1, h2, h3⟩ := hk k hkk
    exact ⟨b, o, c, h2, hc k 2 _ hkk (by decide) (by rw [h1]; rfl), h3⟩
theorem max_shaped {W : World} (h : W.ShapedOpen Tryd.prog) : MaxAt W := Tryd.laysM144.s1_3 W h
end Go.Proofs.YtlblbghlchedpaaDoor
