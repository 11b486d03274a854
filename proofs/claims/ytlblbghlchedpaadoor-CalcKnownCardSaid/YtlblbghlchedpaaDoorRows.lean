/-
  NARROWER THAN 'FOR EVERY INPUT', by the rows' own cells (each row's printed sentence says how): CalcKnown: laid · CalcTests: laid.
  DERIVED. THE GIVEN ROWS OF THIS SEAT. 2 by the template 'for every input the law returns true; each argument reads behind the call as it read before'; 0 by the template 'total and deterministic' (their statements: YtlblbghlchedpaaDoorTotals.lean).
  GIVEN WITH THE SEED: the statements are not yours to turn. If you find one false, say at which input.
  Laid BY PROGRAM, IN A SANDBOX (cutbox-rows.mjs): the forced cells as the released guide's own fill.sh prints them over the translation d0e5ddee130d9c94… (all of the seat's roots in one cut). By AI agents, Wed Nov 11 2026. No macro, syntax, notation, axiom, sorry.
-/
import Derived.Test.YtlblbghlchedpaaDoorChecked
import GoSem.Claim
import GoSem.ClaimJoined
import GoSem.ClaimMapViews
import Derived.JoinedTies
import Derived.KernelRfl
namespace Go.Proofs.YtlblbghlchedpaaDoor
/- THE CELL 'sum', in the pinned program and in every row, IS THE sha256 OF THE DUMP (.gsa) THAT YtlblbghlchedpaaDoorProg.lean LOADS. Nothing in Lean hashes anything: it is a label: what it is worth is what the hold of that sum in a sandbox is worth. -/
noncomputable def Tryd.pinned : Pinned := { name := "ytlblbghlchedpaadoor", sum := "d0e5ddee130d9c94ae9cae652098b32881ebb60f0765b9bf0b30cb6970e3afdb", checked := Tryd.checked }
namespace Rows
def none {H : Type} : Left H := { results := [], args := [] }

/- WHAT THE LISTED PACKAGE-LEVEL VARIABLES READ AS WHEN THE CALL BEGINS. Each datum BY PROGRAM (the guide's laid-datum.mjs) off the statement by which the dump's own 'gosem.cut.vars' lays the variable. In a bare row this is a premise. The card (YtlblbghlchedpaaDoorCards.lean) ties it to the program's text. -/
def laid_daybook_calc_families {H : Type} : DataW H := .agg [.agg [.lit (.bool true), .lit (.int .i64 2), .slice [.lit (.string [61]), .lit (.string [33, 61]), .lit (.string [60]), .lit (.string [60, 61]), .lit (.string [62]), .lit (.string [62, 61]), .lit (.string [98, 101, 103, 105, 110, 115]), .lit (.string [101, 110, 100, 115]), .lit (.string [104, 97, 115]), .lit (.string [107, 105, 110, 100])] []], .agg [.lit (.bool false), .lit (.int .i64 2), .slice [.lit (.string [43]), .lit (.string [45]), .lit (.string [42]), .lit (.string [47]), .lit (.string [109, 111, 100]), .lit (.string [109, 105, 110]), .lit (.string [109, 97, 120]), .lit (.string [99, 97, 116])] []], .agg [.lit (.bool false), .lit (.int .i64 1), .slice [.lit (.string [110, 101, 103]), .lit (.string [97, 98, 115]), .lit (.string [108, 101, 110]), .lit (.string [116, 101, 120, 116]), .lit (.string [118, 97, 108, 117, 101]), .lit (.string [110, 117, 109, 98, 101, 114]), .lit (.string [116, 105, 109, 101]), .lit (.string [110, 97, 109, 101])] []], .agg [.lit (.bool false), .lit (.int .i64 3), .slice [.lit (.string [115, 117, 98])] []]]

/-- 'daybooklaw15.CalcKnown': WHATEVER THE INPUT: true; the input reads as it did. -/
def calcKnownSpec : ChangeSpec := { name := "calcKnown", fn := fun _ => fun
  | [d] => { results := [.lit (.bool true)], args := [d] }
  | _ => none }
def calcKnownRow : OpenClaim := { program := "ytlblbghlchedpaadoor", sum := "d0e5ddee130d9c94ae9cae652098b32881ebb60f0765b9bf0b30cb6970e3afdb", func := "daybook/daybooklaw15.CalcKnown", spec := "calcKnown", unfollowed := true, recurses := true, named := ["daybook/calc.families"], apart := false, laid := [("daybook/calc.families", laid_daybook_calc_families)] }
def CalcKnownSaid : Prop := calcKnownRow.holds Tryd.pinned (OpenSpec.ofChange calcKnownSpec)

/-- ITS FALSE NEIGHBOUR: 'it returns false'. Refute it at one input. -/
def calcKnownWrong : ChangeSpec := { name := "calcKnown", fn := fun _ => fun
  | [d] => { results := [.lit (.bool false)], args := [d] }
  | _ => none }
def CalcKnownWrongFalsely : Prop := calcKnownRow.holds Tryd.pinned (OpenSpec.ofChange calcKnownWrong)

/-- 'daybooklaw15.CalcTests': WHATEVER THE INPUT: true; the input reads as it did. -/
def calcTestsSpec : ChangeSpec := { name := "calcTests", fn := fun _ => fun
  | [d1, d2] => { results := [.lit (.bool true)], args := [d1, d2] }
  | _ => none }
def calcTestsRow : OpenClaim := { program := "ytlblbghlchedpaadoor", sum := "d0e5ddee130d9c94ae9cae652098b32881ebb60f0765b9bf0b30cb6970e3afdb", func := "daybook/daybooklaw15.CalcTests", spec := "calcTests", inPlace := ["internal/bytealg.IndexByteString", "internal/bytealg.IndexString"], unfollowed := true, recurses := true, named := ["daybook/calc.families", "internal/bytealg.MaxLen"], apart := false, laid := [("daybook/calc.families", laid_daybook_calc_families)] }
def CalcTestsSaid : Prop := calcTestsRow.holds Tryd.pinned (OpenSpec.ofChange calcTestsSpec)

/-- ITS FALSE NEIGHBOUR: 'it returns false'. Refute it at one input. -/
def calcTestsWrong : ChangeSpec := { name := "calcTests", fn := fun _ => fun
  | [d1, d2] => { results := [.lit (.bool false)], args := [d1, d2] }
  | _ => none }
def CalcTestsWrongFalsely : Prop := calcTestsRow.holds Tryd.pinned (OpenSpec.ofChange calcTestsWrong)

/- THE SECOND FORM. 'bulk': how many values and letters a reading holds, each counted each time it is reached (what is shared counts as often as it is met; a slice's spare places count too). A statement '..UptoSaid' is the law's where the arguments, and the package variables that the reading takes, are together of bulk at most 1048576: NARROWER than '..Said'. Prove '..Said' where nothing that the law and all that it calls make is longer than what came in: it says more and counts as full. Else prove '..UptoSaid'. A law counts once. -/
mutual
def uptoBulk {H : Type} : DataW H → Nat
  | .lit (.string bytes) => bytes.length + 1
  | .lit _ => 1
  | .nil => 1
  | .ptr d => uptoBulk d + 1
  | .slice elems spare => uptoBulkAll elems + uptoBulkAll spare + 1
  | .agg parts => uptoBulkAll parts + 1
  | .iface _ d => uptoBulk d + 1
  | .map entries => uptoBulkEntries entries + 1
  | .held _ => 1
def uptoBulkAll {H : Type} : List (DataW H) → Nat
  | [] => 0
  | d :: r => uptoBulk d + uptoBulkAll r
def uptoBulkEntries {H : Type} : List (Lit × DataW H) → Nat
  | [] => 0
  | x :: r => uptoBulkEntry x + uptoBulkEntries r
def uptoBulkEntry {H : Type} : Lit × DataW H → Nat
  | (.string bytes, d) => bytes.length + uptoBulk d + 1
  | (_, d) => uptoBulk d + 1
 end
def uptoSmall : (H : Type) → List (DataW H) → Bool := fun _ ds => decide (uptoBulkAll ds ≤ 1048576)
def OpenSpec.upto (s : _root_.Go.ChangeSpec) : _root_.Go.OpenSpec := { _root_.Go.OpenSpec.ofChange s with cond := some uptoSmall }

/-- 'daybooklaw15.CalcKnown', WHERE WHAT IT READS IS OF BULK AT MOST 1048576: true; the input reads as it did. -/
def calcKnownUptoRow : OpenClaim := { program := "ytlblbghlchedpaadoor", sum := "d0e5ddee130d9c94ae9cae652098b32881ebb60f0765b9bf0b30cb6970e3afdb", func := "daybook/daybooklaw15.CalcKnown", spec := "calcKnown", unfollowed := true, recurses := true, named := ["daybook/calc.families"], apart := false, laid := [("daybook/calc.families", laid_daybook_calc_families)], narrowed := true }
def CalcKnownUptoSaid : Prop := calcKnownUptoRow.holds Tryd.pinned (OpenSpec.upto calcKnownSpec)

/-- 'daybooklaw15.CalcTests', WHERE WHAT IT READS IS OF BULK AT MOST 1048576: true; the input reads as it did. -/
def calcTestsUptoRow : OpenClaim := { program := "ytlblbghlchedpaadoor", sum := "d0e5ddee130d9c94ae9cae652098b32881ebb60f0765b9bf0b30cb6970e3afdb", func := "daybook/daybooklaw15.CalcTests", spec := "calcTests", inPlace := ["internal/bytealg.IndexByteString", "internal/bytealg.IndexString"], unfollowed := true, recurses := true, named := ["daybook/calc.families", "internal/bytealg.MaxLen"], apart := false, laid := [("daybook/calc.families", laid_daybook_calc_families)], narrowed := true }
def CalcTestsUptoSaid : Prop := calcTestsUptoRow.holds Tryd.pinned (OpenSpec.upto calcTestsSpec)

end Rows
end Go.Proofs.YtlblbghlchedpaaDoor
