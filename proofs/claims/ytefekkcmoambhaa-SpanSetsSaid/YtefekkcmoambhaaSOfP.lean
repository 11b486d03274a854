/-
  FACTS for Of's contracts.
-/
import Derived.Test.YtefekkcmoambhaaSAppAny
import Derived.Test.YtefekkcmoambhaaSRef
namespace Go.Proofs.Ytefekkcmoambhaa
open Go.RowKit

def orF (x y : Bool) : Bool := x || y
def andF (x y : Bool) : Bool := x && y
def notF (x y : Bool) : Bool := x && !y

/-- what the region that appends reads -/
def SEnd (ge j : Nat) (t u : Int) (W : World) : Prop := W.cell? ⟨ge, j, none⟩ = some (.int .i64 t) ∧ W.cell? ⟨ge, j + 1, none⟩ = some (.int .i64 u)
theorem SEnd.next {ge j B : Nat} {t u : Int} {W W' : World} (h : SEnd ge j t u W) (hb : Below B W W') (hg : ge < B) : SEnd ge j t u W' :=
  ⟨(hb.cell (p := ⟨ge, j, none⟩) hg).trans h.1, (hb.cell (p := ⟨ge, j + 1, none⟩) hg).trans h.2⟩
theorem OwnS.low {W : World} {B B' : Nat} {v : Value} {l : List Sp} (h : OwnS W B v l) (hB : B' ≤ B) : OwnS W B' v l := by
  refine ⟨h.1, ?_⟩
  rcases h.2 with h | ⟨g, cap, cur, h1, h2, h3⟩
  · exact .inl h
  · exact .inr ⟨g, cap, cur, h1, by omega, h3⟩
theorem OwnS.drewN {W : World} {B : Nat} {v : Value} {l : List Sp} (h : OwnS W B v l) (n : Nat) : OwnS (W.drewN n) B v l := h
end Go.Proofs.Ytefekkcmoambhaa
