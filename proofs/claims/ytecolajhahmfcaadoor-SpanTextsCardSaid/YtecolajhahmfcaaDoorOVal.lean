/-
  CONTRACTS: appendValue; the bytes of a number, a value.
-/
import Derived.Test.YtecolajhahmfcaaDoorOApp
import Derived.Deep.CutBlock
namespace Go.Proofs.YtecolajhahmfcaaDoor
open Go.RowKit

end Go.Proofs.YtecolajhahmfcaaDoor
