import Derived.Test.YtlmihlepaoifiaaJSPure
import Derived.Test.YtlmihlepaoifiaaJDPure
/-
  PLAIN FACTS: stretches of one key; how few spans a set has; turns, one behind the other.
-/
namespace Go.Proofs.Ytlmihlepaoifiaa

section
variable {α κ : Type} [DecidableEq κ] (key : α → κ)
/-- how long the first stretch of one key is -/
def runN : List α → Nat
  | [] => 0
  | x :: l => 1 + (l.takeWhile fun y => decide (key y = key x)).length
end

/-- what is said at an instant turns at these instants alone -/
def TurnsAt (E : List Int) (p : Int → Prop) : Prop := ∀ t, t ∉ E → (p t ↔ p (t - 1))
theorem TurnsAt.or {E : List Int} {p q : Int → Prop} (h : TurnsAt E p) (k : TurnsAt E q) : TurnsAt E (fun t => p t ∨ q t) := fun t ht => or_congr (h t ht) (k t ht)
theorem TurnsAt.more {E E' : List Int} {p : Int → Prop} (h : TurnsAt E p) (hE : ∀ x ∈ E, x ∈ E') : TurnsAt E' p := fun t ht => h t fun k => ht (hE t k)
/-- what transactions make of a triple's instants: first some go, then some come -/
structure TurnP where
  i : List Sp
  o : List Sp
/-- a turn of sets, whose instants turn at E alone -/
structure TurnOk (E : List Int) (x : TurnP) : Prop where
  i : SetL x.i
  o : SetL x.o
  ik : ∀ s ∈ x.i, SpOk s
  ok : ∀ s ∈ x.o, SpOk s
  ie : TurnsAt E (Inn x.i)
  oe : TurnsAt E (Inn x.o)
end Go.Proofs.Ytlmihlepaoifiaa

/-
  PLAIN FACTS: what datoms are folded to.
-/
namespace Go.Proofs.Ytlmihlepaoifiaa

/-- A fact. -/
structure FactP where
  e : Int
  a : Int
  k : Int
  m : Int
  s : ByteArray
  l : List Sp
end Go.Proofs.Ytlmihlepaoifiaa

/-
  PLAIN FACTS: an instant is in what is folded just if the last datom that names it is Add.
-/
namespace Go.Proofs.Ytlmihlepaoifiaa

end Go.Proofs.Ytlmihlepaoifiaa
