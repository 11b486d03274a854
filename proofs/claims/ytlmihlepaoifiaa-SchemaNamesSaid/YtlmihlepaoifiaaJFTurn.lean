import Derived.Test.YtlmihlepaoifiaaJVSl
import Derived.Test.YtlmihlepaoifiaaJSSet
import Derived.Maps.AppendAt
import Derived.Laws.AppendOwnNone
import Derived.Test.YtlmihlepaoifiaaJFThen
import Derived.Test.YtlmihlepaoifiaaJFLastP
import Derived.Test.YtlmihlepaoifiaaJDSl
import Derived.Test.YtlmihlepaoifiaaJORdRead
import Derived.Test.YtlmihlepaoifiaaJORdNum
/-
  FACTS for Of's contracts.
-/
namespace Go.Proofs.Ytlmihlepaoifiaa
open Go.RowKit

def notF (x y : Bool) : Bool := x && !y

/-- what the region that appends reads -/
def SEnd (ge j : Nat) (t u : Int) (W : World) : Prop := W.cell? ⟨ge, j, none⟩ = some (.int .i64 t) ∧ W.cell? ⟨ge, j + 1, none⟩ = some (.int .i64 u)
theorem SEnd.next {ge j B : Nat} {t u : Int} {W W' : World} (h : SEnd ge j t u W) (hb : Below B W W') (hg : ge < B) : SEnd ge j t u W' :=
  ⟨(hb.cell (p := ⟨ge, j, none⟩) hg).trans h.1, (hb.cell (p := ⟨ge, j + 1, none⟩) hg).trans h.2⟩
theorem OwnS.low {W : World} {B B' : Nat} {v : Value} {l : List Sp} (h : OwnS W B v l) (hB : B' ≤ B) : OwnS W B' v l := by
  refine ⟨h.1, ?_⟩
  rcases h.2 with h | ⟨g, cap, cur, h1, h2, h3⟩
  · exact .inl h
  · exact .inr ⟨g, cap, cur, h1, by omega, h3⟩
theorem OwnS.drewN {W : World} {B : Nat} {v : Value} {l : List Sp} (h : OwnS W B v l) (n : Nat) : OwnS (W.drewN n) B v l := h
end Go.Proofs.Ytlmihlepaoifiaa

/-
  CONTRACT: turnOf (one transaction's datoms of one triple).
-/
namespace Go.Proofs.Ytlmihlepaoifiaa
open Go.RowKit Go.Shelf

/-- two rows are none the same -/
def Ap (u v : Value) : Prop := ∀ g, u.ownBlock = some g → v.ownBlock = some g → False
theorem Ap.symm {u v : Value} (h : Ap u v) : Ap v u := fun g h1 h2 => h g h2 h1
end Go.Proofs.Ytlmihlepaoifiaa
