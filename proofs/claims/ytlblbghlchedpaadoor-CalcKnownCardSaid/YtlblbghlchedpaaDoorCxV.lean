/-
  PLAIN FUNCTIONS: what a predicate says of two values.
-/
import Derived.Test.YtlblbghlchedpaaDoorCxP
namespace Go.Proofs.YtlblbghlchedpaaDoor
open Go.RowKit

/-- a value: kind, number, text -/
abbrev Cv := Int × Int × ByteArray
def ordC (a b : Cv) : Int := ordV a.1 a.2.1 a.2.2 b.1 b.2.1 b.2.2
def mayC (a : Cv) : Bool := mayB a.1 a.2.1 a.2.2
def longK (k : Int) : Bool := k == 3 || k == 4
def bytK (k : Int) : Bool := k == 3 || k == 4 || k == 7
def e0 : ByteArray := ⟨#[]⟩
/-- does a text stand somewhere in another? -/
def hasL : Bt → Bt → Bool
  | [], p => p.isEmpty
  | b :: l, p => p.isPrefixOf (b :: l) || hasL l p
/-- what a predicate says of two values -/
def sayC (s : Bt) (a b : Cv) : Bool :=
  if s = [61] then ordC a b == 0
  else if s = [33, 61] then ordC a b != 0
  else if s = [60] then decide (ordC a b < 0)
  else if s = [60, 61] then decide (ordC a b ≤ 0)
  else if s = [62] then decide (0 < ordC a b)
  else if s = [62, 61] then decide (0 ≤ ordC a b)
  else if s = [98, 101, 103, 105, 110, 115] then (a.1 == b.1) && bytK a.1 && b.2.2.data.toList.isPrefixOf a.2.2.data.toList
  else if s = [101, 110, 100, 115] then (a.1 == b.1) && bytK a.1 && b.2.2.data.toList.isSuffixOf a.2.2.data.toList
  else if s = [104, 97, 115] then (a.1 == b.1) && bytK a.1 && hasL a.2.2.data.toList b.2.2.data.toList
  else (b.1 == 1) && (b.2.1 == a.1)
/-- may a name be asked of values? -/
def rightC (test : Bool) (s : Bt) (l : List Cv) : Int :=
  if (knownC s).2.2 = true ∧ (knownC s).2.1 = test ∧ (knownC s).1 = (l.length : Int) then (if l.all mayC = true then 0 else 10) else 150
/-- what Test answers -/
def testV (s : Bt) (l : List Cv) : Bool × Int :=
  match rightC true s l, l with
  | 0, [a, b] => (sayC s a b, 0)
  | e, _ => (false, e)
end Go.Proofs.YtlblbghlchedpaaDoor
