/-
  DERIVED. GIVEN WITH THE SEED: THE CARDS: each row of YtlblbghlchedpaaDoorRows.lean that lists a variable, with what it lists TIED to the program's text (the seventh form; the later family's looks); each row that meets fmt, with fmt's text TOLD by the authors' own Lean function (tested against real Go, not proved from fmt's source: count such statements apart). THE CARD IS WHAT COUNTS. Prove the row's statement (the work); the ties are given (YtlblbghlchedpaaDoorTie.lean); close each card by the builder's one call (the guide's Derived/Test/ToyasCard.lean, 'card_holds'). Laid BY PROGRAM, IN A SANDBOX (cutbox-door.mjs). By AI agents, Wed Nov 11 2026. No macro, syntax, notation, axiom, sorry.
-/
import Derived.Test.YtlblbghlchedpaaDoorRows
import GoSem.ClaimSeven
namespace Go.Proofs.YtlblbghlchedpaaDoor
namespace Rows

/-- THE TIED CARD OF 'daybooklaw15.CalcKnown'. -/
def calcKnownCard : Claim7 := { stood := { row := calcKnownRow, standIns := [], harness := (true, "4e7953e63f51cc4e97751c22d2a6bc916e6815a3d4d6029e4eea136da40a4a82"), looks := false }, kinds := [], alts := [], laidByText := true, laidKinds := [.data], laidTests := true, laidLooks := .later }
def CalcKnownCardSaid : Prop := Claim7.holds Tryd.pinned (.plain (OpenSpec.ofChange calcKnownSpec)) calcKnownCard

/-- THE TIED CARD OF 'daybooklaw15.CalcTests'. -/
def calcTestsCard : Claim7 := { stood := { row := calcTestsRow, standIns := [], harness := (true, "4e7953e63f51cc4e97751c22d2a6bc916e6815a3d4d6029e4eea136da40a4a82"), looks := false }, kinds := [], alts := [], laidByText := true, laidKinds := [.data], laidTests := true, laidLooks := .later }
def CalcTestsCardSaid : Prop := Claim7.holds Tryd.pinned (.plain (OpenSpec.ofChange calcTestsSpec)) calcTestsCard

/-- THE SECOND FORM's CARD OF 'daybooklaw15.CalcKnown'. -/
def calcKnownUptoCard : Claim7 := { stood := { row := calcKnownUptoRow, standIns := [], harness := (true, "4e7953e63f51cc4e97751c22d2a6bc916e6815a3d4d6029e4eea136da40a4a82"), looks := false }, kinds := [], alts := [], laidByText := true, laidKinds := [.data], laidTests := true, laidLooks := .later }
def CalcKnownUptoCardSaid : Prop := Claim7.holds Tryd.pinned (.plain (OpenSpec.upto calcKnownSpec)) calcKnownUptoCard

/-- THE SECOND FORM's CARD OF 'daybooklaw15.CalcTests'. -/
def calcTestsUptoCard : Claim7 := { stood := { row := calcTestsUptoRow, standIns := [], harness := (true, "4e7953e63f51cc4e97751c22d2a6bc916e6815a3d4d6029e4eea136da40a4a82"), looks := false }, kinds := [], alts := [], laidByText := true, laidKinds := [.data], laidTests := true, laidLooks := .later }
def CalcTestsUptoCardSaid : Prop := Claim7.holds Tryd.pinned (.plain (OpenSpec.upto calcTestsSpec)) calcTestsUptoCard
end Rows
end Go.Proofs.YtlblbghlchedpaaDoor
