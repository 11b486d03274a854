/-
  CONTRACTS: appendValue; the bytes of a number, a value.
-/
import Derived.Test.YthdjlaombbeagaaOApp
import Derived.Deep.CutBlock
namespace Go.Proofs.Ythdjlaombbeagaa
open Go.RowKit

end Go.Proofs.Ythdjlaombbeagaa
