/-
  CONTRACTS: SortedFunc (of spans), Make (of spans that are there).
-/
import Derived.Shelf.SlSortCmp.NoneTotal
import Derived.Test.YtlmihlepaoifiaaJSortG
import Derived.Test.YtlmihlepaoifiaaJSCollect
import Derived.Test.YtlmihlepaoifiaaJOWords
namespace Go.Proofs.Ytlmihlepaoifiaa
open Go.RowKit Go.Shelf
open Go.Sort (SWO SortedIn PermIn grow grow_grow alloc_eq_grow putRow mapBlock flatK get_flatK size_flatK HoldsK putRowK holdsK_putRowK)

end Go.Proofs.Ytlmihlepaoifiaa
