/-
  CONTRACT: Key (the document's).
-/
import Derived.Test.YtkoknogefmfmnaaJORefRd
import Derived.Test.YtkoknogefmfmnaaJOKeyW
namespace Go.Proofs.Ytkoknogefmfmnaa
open Go.RowKit Go.Shelf

theorem valB_ne (k n : Int) (s : ByteArray) : valB k n s ≠ [] := by unfold valB; simp

end Go.Proofs.Ytkoknogefmfmnaa
