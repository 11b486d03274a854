/-
  CONTRACT: alive (the statements' own).
-/
import Derived.Test.YtohpilamoglhcaaQAlive
namespace Go.Proofs.Ytohpilamoglhcaa
open Go.RowKit

def dabF : List Pr := [([97], [49]), ([98], [50]), ([100], [52])]
def PrEnd (w : World) (k x : By) (is : Bool) (e : Ending) (w' : World) : Prop := ∃ A1 c1 A2 c2, e = .returned (.tuple #[.agg #[.slice A1 k.length c1, .slice A2 x.length c2], .bool is]) ∧ SlB w' w'.heap.size A1 k ∧ SlB w' w'.heap.size A2 x ∧ Below w.heap.size w w'
theorem prEnd_of {w : World} {L : List Pr} {i : Int} {k x : By} {is : Bool} {e : Ending} {w' : World} (h : AtEnd w L i e w') (h1 : atP L i = (k, x)) (h2 : isP L i = is) : PrEnd w k x is e w' := by
  obtain ⟨v, rfl, hv, hb⟩ := h
  rw [h1] at hv
  obtain ⟨A, c, A', c', rfl, k1, k2⟩ := prV_open hv
  exact ⟨A, c, A', c', by rw [h2], k1, k2, hb⟩
theorem rank99 : rankL dabF [99] = 2 := by decide
theorem rank97 : rankL dabF [97] = 0 := by decide
theorem seekD [LT Gb] (A : Option Addr) (c : Nat) (u : Option Addr) (w : World) (h : TreeV w (.pointer u) dabF) (hk : SlB w w.heap.size A [99]) :
    Calls Try.prog 40 #[.pointer u, .slice A 1 c] w (PrEnd w [100] [52] true) :=
  (seekM_any A c [99] w h hk (Nat.le_refl _)).mono fun _ _ h => prEnd_of h (by rw [rank99]; rfl) (by rw [rank99]; rfl)
theorem backD [LT Gb] (A : Option Addr) (c : Nat) (u : Option Addr) (w : World) (h : TreeV w (.pointer u) dabF) (hk : SlB w w.heap.size A [99]) :
    Calls Try.prog 43 #[.pointer u, .slice A 1 c] w (PrEnd w [98] [50] true) :=
  (backM_any A c [99] w h hk (Nat.le_refl _)).mono fun _ _ h => prEnd_of h (by rw [rank99]; rfl) (by rw [rank99]; rfl)
theorem backA [LT Gb] (A : Option Addr) (c : Nat) (u : Option Addr) (w : World) (h : TreeV w (.pointer u) dabF) (hk : SlB w w.heap.size A [97]) :
    Calls Try.prog 43 #[.pointer u, .slice A 1 c] w (PrEnd w [] [] false) :=
  (backM_any A c [97] w h hk (Nat.le_refl _)).mono fun _ _ h => prEnd_of h (by rw [rank97]; rfl) (by rw [rank97]; rfl)
end Go.Proofs.Ytohpilamoglhcaa
