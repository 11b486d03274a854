/-
  THE WORLD IN WHICH THE LISTED TABLES AND THE TWO ERRORS LIE (for the witness of a row that lists the seven), and what such a list gives.
-/
import Derived.Test.YtfonmgpkbgdniaaGreatDoorRows
import Derived.ProofKit
import Derived.OpenShut
import Derived.ShutString
import Derived.ChangeOld
import Derived.Deep.DeepHandedRow
import Derived.Deep.DeepWitnessRowRef
import Derived.Lib.LaidTab
import Derived.Lib.SmallJoins
import Derived.Stop.LaidErr
import Derived.RowKitTokens
import Derived.Test.YtfonmgpkbgdniaaGreatDoorJSTime
namespace Go.Proofs.YtfonmgpkbgdniaaGreatDoor
open Go.ChangeShapes Go.WideShapes Go.ChangeAt Go.RowKit Go.Joins

def cells32 : Array Value := #[.int .u8 0, .int .u8 1, .int .u8 28, .int .u8 2, .int .u8 29, .int .u8 14, .int .u8 24, .int .u8 3, .int .u8 30, .int .u8 22, .int .u8 20, .int .u8 15, .int .u8 25, .int .u8 17, .int .u8 4, .int .u8 8, .int .u8 31, .int .u8 27, .int .u8 13, .int .u8 23, .int .u8 21, .int .u8 19, .int .u8 16, .int .u8 7, .int .u8 26, .int .u8 12, .int .u8 18, .int .u8 6, .int .u8 11, .int .u8 5, .int .u8 10, .int .u8 9]
def cells64 : Array Value := #[.int .u8 0, .int .u8 1, .int .u8 56, .int .u8 2, .int .u8 57, .int .u8 49, .int .u8 28, .int .u8 3, .int .u8 61, .int .u8 58, .int .u8 42, .int .u8 50, .int .u8 38, .int .u8 29, .int .u8 17, .int .u8 4, .int .u8 62, .int .u8 47, .int .u8 59, .int .u8 36, .int .u8 45, .int .u8 43, .int .u8 51, .int .u8 22, .int .u8 53, .int .u8 39, .int .u8 33, .int .u8 30, .int .u8 24, .int .u8 18, .int .u8 12, .int .u8 5, .int .u8 63, .int .u8 55, .int .u8 48, .int .u8 27, .int .u8 60, .int .u8 41, .int .u8 37, .int .u8 16, .int .u8 46, .int .u8 35, .int .u8 44, .int .u8 21, .int .u8 52, .int .u8 32, .int .u8 23, .int .u8 11, .int .u8 54, .int .u8 26, .int .u8 40, .int .u8 15, .int .u8 34, .int .u8 20, .int .u8 31, .int .u8 10, .int .u8 25, .int .u8 14, .int .u8 19, .int .u8 9, .int .u8 13, .int .u8 8, .int .u8 7, .int .u8 6]
def cells10 : Array Value := #[.int .u64 1, .int .u64 10, .int .u64 100, .int .u64 1000, .int .u64 10000, .int .u64 100000, .int .u64 1000000, .int .u64 10000000, .int .u64 100000000, .int .u64 1000000000, .int .u64 10000000000, .int .u64 100000000000, .int .u64 1000000000000, .int .u64 10000000000000, .int .u64 100000000000000, .int .u64 1000000000000000, .int .u64 10000000000000000, .int .u64 100000000000000000, .int .u64 1000000000000000000, .int .u64 10000000000000000000]
def cellsAcc : Array Value := #[.int .u8 128, .int .u8 191, .int .u8 160, .int .u8 191, .int .u8 128, .int .u8 159, .int .u8 144, .int .u8 191, .int .u8 128, .int .u8 143, .int .u8 0, .int .u8 0, .int .u8 0, .int .u8 0, .int .u8 0, .int .u8 0, .int .u8 0, .int .u8 0, .int .u8 0, .int .u8 0, .int .u8 0, .int .u8 0, .int .u8 0, .int .u8 0, .int .u8 0, .int .u8 0, .int .u8 0, .int .u8 0, .int .u8 0, .int .u8 0, .int .u8 0, .int .u8 0]
def cellsFirst : Array Value := (Go.Pinned.utf8FirstZ.map fun x : Nat => Value.int .u8 (x : Int)).toArray

theorem gPow : Tryz.prog.globalNamed "internal/strconv.uint64pow10" = some 0 := by kernel_rfl
theorem gPowType : (Tryz.prog.globals[0]?).map (·.type) = some 111 := by kernel_rfl
theorem cellsPow : Tryz.prog.cellsOf 111 = 20 := by kernel_rfl
theorem cellsU64 : Tryz.prog.cellsOf 77 = 1 := by kernel_rfl
/-- what a list that has the table third gives -/
theorem tabThird {W : World} {x y : String × DataW Unit} {rest : List (String × DataW Unit)} (h : laidMet Tryz.prog (x :: y :: ("internal/strconv.uint64pow10", Lib.tabData .u64 Lib.pow10Tab) :: rest) W) : TabB W.heap.size W :=
  Lib.tabBelow_of_tabIs (Lib.tabIs_of_head gPow gPowType Tryz.underlying111 Tryz.underlying77 cellsU64 cellsPow (laidMet.tail (laidMet.tail h)))

theorem gSynType : (Tryz.prog.globals[4]?).map (·.type) = some 84 := by kernel_rfl
theorem gRanType : (Tryz.prog.globals[5]?).map (·.type) = some 84 := by kernel_rfl
theorem cellsEs : Tryz.prog.cellsOf 146 = 1 := by kernel_rfl
theorem cellsStr : Tryz.prog.cellsOf 9 = 1 := by kernel_rfl
theorem star : "*" ++ "errors.errorString" = "*errors.errorString" := by decide
theorem rowEs (u : TypeId) (h : Tryz.prog.typeName? 3 u = some "*errors.errorString") : u = 144 :=
  typeName_ptr_named (nm := "errors.errorString") (by rw [star]; kernel_rfl) (by kernel_rfl) (by decide) u (by rw [star]; exact h)

/-- what a list that has the two errors fifth and sixth gives -/
theorem errsFifth {W : World} {x y z u : String × DataW Unit} {a b : List UInt8} {rest : List (String × DataW Unit)}
    (h : laidMet Tryz.prog (x :: y :: z :: u :: ("strconv.ErrRange", .iface "*errors.errorString" (.ptr (.agg [.lit (.string a)]))) :: ("strconv.ErrSyntax", .iface "*errors.errorString" (.ptr (.agg [.lit (.string b)]))) :: rest) W) : Errs W := by
  have h3 := laidMet.tail (laidMet.tail (laidMet.tail (laidMet.tail h)))
  obtain ⟨a0, s0, hv0, -, -, -⟩ := laid_sentinel h3 gRan gRanType Tryz.underlying84 rowEs Tryz.underlying144 Tryz.underlying146 rfl rfl Tryz.underlying9 cellsEs cellsStr
  obtain ⟨a1, s1, hv1, -, -, -⟩ := laid_sentinel (laidMet.tail h3) gSyn gSynType Tryz.underlying84 rowEs Tryz.underlying144 Tryz.underlying146 rfl rfl Tryz.underlying9 cellsEs cellsStr
  exact ⟨⟨_, _, hv1⟩, ⟨_, _, hv0⟩⟩

def putCells (c : Array Value) : Obj → Obj
  | .cells _ t fr => .cells c t fr
  | o => o
def ranS : ByteArray := ⟨#[118, 97, 108, 117, 101, 32, 111, 117, 116, 32, 111, 102, 32, 114, 97, 110, 103, 101]⟩
def synS : ByteArray := ⟨#[105, 110, 118, 97, 108, 105, 100, 32, 115, 121, 110, 116, 97, 120]⟩
noncomputable def low : Nat := (World.holding Tryz.prog default ⟨#[], #[], []⟩).heap.size
/-- The settled world, each table and each error holding what its initialiser lays. -/
noncomputable def errsWorld (os : Os) : World :=
  let w0 := World.holding Tryz.prog os ⟨#[.cells #[.string ranS] 146, .cells #[.string synS] 146], #[], []⟩
  { w0 with heap := ((((((w0.heap.modify 0 (putCells cells10)).modify 6 (putCells cells32)).modify 7 (putCells cells64)).modify 5 (putCells #[.iface 144 (.pointer (some ⟨low, 0, none⟩))])).modify 4 (putCells #[.iface 144 (.pointer (some ⟨low + 1, 0, none⟩))])).modify 2 (putCells cellsAcc)).modify 1 (putCells cellsFirst) }
end Go.Proofs.YtfonmgpkbgdniaaGreatDoor
