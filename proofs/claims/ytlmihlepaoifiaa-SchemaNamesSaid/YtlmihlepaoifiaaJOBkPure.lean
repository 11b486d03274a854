import Derived.Test.YtlmihlepaoifiaaJOWords
/-
  PLAIN FUNCTIONS (no program): what bytes are read as.
-/
namespace Go.Proofs.Ytlmihlepaoifiaa
open Go.RowKit

end Go.Proofs.Ytlmihlepaoifiaa

/-
  PLAIN FACTS: what is written is read as it was; what is read, written, are the bytes.
-/
namespace Go.Proofs.Ytlmihlepaoifiaa
open Go.RowKit

end Go.Proofs.Ytlmihlepaoifiaa
