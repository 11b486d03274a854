/-
  CONTRACT of the document's own answer: Make.
-/
import Derived.Test.YtfonmgpkbgdniaaGreatDoorJSRefMk
namespace Go.Proofs.YtfonmgpkbgdniaaGreatDoor
open Go.RowKit

/-- may all spans be? -/
def okB (l : List Sp) : Bool := decide (∀ s ∈ l, s.1 < s.2)
def makeL (l : List Sp) : List Sp := if okB l then ofL orF l [] [] (endsL (l ++ [])) else []
def makeE (l : List Sp) : Int := if okB l then 0 else 30
/-- What Make gives is a set, with what the spans have. -/
theorem makeL_set {l : List Sp} (h : okB l = true) : SetL (makeL l) ∧ ∀ t, innB (makeL l) t = innB l t := by
  unfold makeL
  rw [if_pos h]
  obtain ⟨h1, h2⟩ := of_set orF rfl l []
  refine ⟨h1, fun t => ?_⟩
  rw [h2, innB_no (a := []) (fun s hs => by cases hs)]
  exact Bool.or_false _
end Go.Proofs.YtfonmgpkbgdniaaGreatDoor
