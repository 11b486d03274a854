/-
  CONTRACTS: SortedFunc (of spans), Make (of spans that are there).
-/
import Derived.Shelf.SlSortCmp.NoneTotal
import Derived.Test.YtlmihlepaoifiaaGreatJSortG
import Derived.Test.YtlmihlepaoifiaaGreatJSCollect
import Derived.Test.YtlmihlepaoifiaaGreatJLeaf
namespace Go.Proofs.YtlmihlepaoifiaaGreat
open Go.RowKit Go.Shelf
open Go.Sort (SWO SortedIn PermIn grow grow_grow alloc_eq_grow putRow mapBlock flatK get_flatK size_flatK HoldsK putRowK holdsK_putRowK)

end Go.Proofs.YtlmihlepaoifiaaGreat
