/-
  THE WORLD IN WHICH THE FORMS' NAMES LIE, and what the list gives.
-/
import Derived.Test.YtdjdlfndmeegnaaDoorRows
import Derived.Test.YtdjdlfndmeegnaaDoorKPrts
import Derived.ProofKit
import Derived.OpenShut
import Derived.ShutString
import Derived.ChangeOld
import Derived.Deep.DeepHandedRow
import Derived.Deep.DeepWitnessRowRef
import Derived.Lib.LaidTab
import Derived.Lib.SmallJoins
import Derived.RowKitTokens
namespace Go.Proofs.YtdjdlfndmeegnaaDoor
open Go.RowKit
open Go.ChangeShapes Go.WideShapes Go.ChangeAt Go.RowKit Go.Joins

theorem gNam : Tryd.prog.globalNamed "daybook/claim.names" = some 0 := by kernel_rfl
theorem gNamType : (Tryd.prog.globals[0]?).map (·.type) = some 49 := by kernel_rfl
theorem cellsNam : Tryd.prog.cellsOf 49 = 5 := by kernel_rfl
theorem cellsStrK : Tryd.prog.cellsOf 9 = 1 := by kernel_rfl
theorem bytes_of {s : ByteArray} {l : List UInt8} (h : s.data.toList = l) : s = ⟨l.toArray⟩ := by
  obtain ⟨a⟩ := s
  simp only at h
  rw [← h, Array.toArray_toList]
/-- what the list gives -/
theorem names_laid {W : World} {rest : List (String × DataW Unit)} (h : laidMet Tryd.prog (("daybook/claim.names", .agg [.lit (.string []), .lit (.string [97, 100, 100]), .lit (.string [99, 117, 116]), .lit (.string [103, 111, 110, 101]), .lit (.string [115, 119, 97, 112])]) :: rest) W) : NamesAt W := by
  obtain ⟨ps, ⟨g', t', cs, fuel, p, q, hg', ht', hvar, hd, _, _⟩, _⟩ := h
  obtain rfl := Option.some.inj (gNam.symm.trans hg')
  obtain rfl := Option.some.inj (gNamType.symm.trans ht')
  obtain ⟨xs, m, _, ex, hlen, hl, hel⟩ := DataW.trod_array Tryd.underlying49 hd
  rw [cellsNam] at hlen
  rw [cellsStrK] at hel
  have e3 := (DataW.agg.inj (Prod.mk.inj ex).1)
  have hc : ∀ k : Nat, k < 5 → cs.toList[k]? = some (.string (opS k)) := by
    intro k hk
    obtain ⟨x, hx⟩ : ∃ x, xs[k]? = some x := ⟨xs[k]'(by omega), List.getElem?_eq_getElem _⟩
    have hk1 := hel k hk
    rw [hx] at hk1
    obtain ⟨s, hs, rfl, _⟩ := DataW.trod_string Tryd.underlying9 hk1
    have h1 : cs.toList[k]? = some (.string s) := by
      have := congrArg (·[0]?) hs
      simpa [List.getElem?_take, List.getElem?_drop] using this
    have h2 := congrArg (·[k]?) e3
    simp only [List.getElem?_map, hx, Option.map_some] at h2
    rw [h1]
    have h5 : k = 0 ∨ k = 1 ∨ k = 2 ∨ k = 3 ∨ k = 4 := by omega
    rcases h5 with rfl | rfl | rfl | rfl | rfl
    all_goals
      have h6 := (Option.some.inj h2)
      have h7 := Lit.string.inj (DataW.lit.inj h6)
      rw [bytes_of h7.symm]
      rfl
  refine ⟨?_, fun k hk => ?_⟩
  · have h0 := World.var?_cell gNam hvar 0
    have h1 : cs[0]? = some (.string (opS 0)) := by have := hc 0 (by decide); simpa using this
    rw [h1] at h0
    unfold World.cell? at h0
    cases hh : W.heap[0]? with
    | none => simp [hh] at h0
    | some o => exact (Array.getElem?_eq_some_iff.1 hh).1
  · have h0 := World.var?_cell gNam hvar k
    rw [h0]
    have := hc k hk
    simpa using this
def putCellsK (c : Array Value) : Obj → Obj
  | .cells _ t fr => .cells c t fr
  | o => o
/-- The settled world, the names as their initialiser lays them. -/
noncomputable def namesWorld (os : Os) : World :=
  let w0 := World.holding Tryd.prog os ⟨#[], #[], []⟩
  { w0 with heap := w0.heap.modify 0 (putCellsK #[.string ⟨#[]⟩, .string ⟨#[97, 100, 100]⟩, .string ⟨#[99, 117, 116]⟩, .string ⟨#[103, 111, 110, 101]⟩, .string ⟨#[115, 119, 97, 112]⟩]) }

end Go.Proofs.YtdjdlfndmeegnaaDoor
