/-
  THE WORLD IN WHICH THE LISTED TABLES AND THE TWO ERRORS LIE (for the witness of a row that lists the five), and what such a list gives.
-/
import Derived.Test.YtpnjolacmkcofaaDoorLaid
import Derived.Test.YtpnjolacmkcofaaDoorReadNum
import Derived.RowKitTokens
namespace Go.Proofs.YtpnjolacmkcofaaDoor
open Go.ChangeShapes Go.WideShapes Go.ChangeAt Go.RowKit Go.Joins

theorem gSynType : (Tryd.prog.globals[1]?).map (·.type) = some 68 := by kernel_rfl
theorem gRanType : (Tryd.prog.globals[2]?).map (·.type) = some 68 := by kernel_rfl
theorem cellsEs : Tryd.prog.cellsOf 107 = 1 := by kernel_rfl
theorem cellsStr : Tryd.prog.cellsOf 9 = 1 := by kernel_rfl
theorem star : "*" ++ "errors.errorString" = "*errors.errorString" := by decide
theorem rowEs (u : TypeId) (h : Tryd.prog.typeName? 3 u = some "*errors.errorString") : u = 105 :=
  typeName_ptr_named (nm := "errors.errorString") (by rw [star]; kernel_rfl) (by kernel_rfl) (by decide) u (by rw [star]; exact h)

/-- what a list that has the two errors fourth and fifth gives -/
theorem errsFourth {W : World} {x y z : String × DataW Unit} {a b : List UInt8} {rest : List (String × DataW Unit)}
    (h : laidMet Tryd.prog (x :: y :: z :: ("strconv.ErrRange", .iface "*errors.errorString" (.ptr (.agg [.lit (.string a)]))) :: ("strconv.ErrSyntax", .iface "*errors.errorString" (.ptr (.agg [.lit (.string b)]))) :: rest) W) : Errs W := by
  have h3 := laidMet.tail (laidMet.tail (laidMet.tail h))
  obtain ⟨a0, s0, hv0, -, -, -⟩ := laid_sentinel h3 gRan gRanType Tryd.underlying68 rowEs Tryd.underlying105 Tryd.underlying107 rfl rfl Tryd.underlying9 cellsEs cellsStr
  obtain ⟨a1, s1, hv1, -, -, -⟩ := laid_sentinel (laidMet.tail h3) gSyn gSynType Tryd.underlying68 rowEs Tryd.underlying105 Tryd.underlying107 rfl rfl Tryd.underlying9 cellsEs cellsStr
  exact ⟨⟨_, _, hv1⟩, ⟨_, _, hv0⟩⟩

def ranS : ByteArray := ⟨#[118, 97, 108, 117, 101, 32, 111, 117, 116, 32, 111, 102, 32, 114, 97, 110, 103, 101]⟩
def synS : ByteArray := ⟨#[105, 110, 118, 97, 108, 105, 100, 32, 115, 121, 110, 116, 97, 120]⟩
noncomputable def low : Nat := (World.holding Tryd.prog default ⟨#[], #[], []⟩).heap.size
/-- The settled world, each table and each error holding what its initialiser lays. -/
noncomputable def errsWorld (os : Os) : World :=
  let w0 := World.holding Tryd.prog os ⟨#[.cells #[.string ranS] 107, .cells #[.string synS] 107], #[], []⟩
  { w0 with heap := ((((w0.heap.modify 0 (putCells cells10)).modify 3 (putCells cells32)).modify 4 (putCells cells64)).modify 2 (putCells #[.iface 105 (.pointer (some ⟨low, 0, none⟩))])).modify 1 (putCells #[.iface 105 (.pointer (some ⟨low + 1, 0, none⟩))]) }

end Go.Proofs.YtpnjolacmkcofaaDoor
