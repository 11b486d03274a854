/-
  DERIVED. GIVEN WITH THE SEED: THE CARDS: each row of YthbighnkohjfnaaGreatDoorRows.lean that lists a variable, with what it lists TIED to the program's text (the seventh form; the later family's looks); each row that meets fmt, with fmt's text TOLD by the authors' own Lean function (tested against real Go, not proved from fmt's source: count such statements apart). THE CARD IS WHAT COUNTS. Prove the row's statement (the work); the ties are given (YthbighnkohjfnaaGreatDoorTie.lean); close each card by the builder's one call (the guide's Derived/Test/ToyasCard.lean, 'card_holds'). Laid BY PROGRAM, IN A SANDBOX (cutbox-door.mjs). By AI agents, Wed Nov 11 2026. No macro, syntax, notation, axiom, sorry.
-/
import Derived.Test.YthbighnkohjfnaaGreatDoorRows
import GoSem.ClaimSeven
namespace Go.Proofs.YthbighnkohjfnaaGreatDoor
namespace Rows

/-- THE TIED CARD OF 'daybooklaw05.TextParses'. -/
def textParsesCard : Claim7 := { stood := { row := textParsesRow, standIns := [], harness := (true, "c698dce7f19393fdd92c65d80580a529c18287d5dd1d887f27c0f33cb1f9fc7c"), looks := true }, kinds := [], alts := [], laidByText := true, laidKinds := [.data, .data, .data, .sentinel, .sentinel], laidTests := true, laidLooks := .later }
def TextParsesCardSaid : Prop := Claim7.holds Tryz.pinned (.plain (OpenSpec.ofChange textParsesSpec)) textParsesCard

/-- THE TIED CARD OF 'daybooklaw05.TextNames'. -/
def textNamesCard : Claim7 := { stood := { row := textNamesRow, standIns := [], harness := (true, "c698dce7f19393fdd92c65d80580a529c18287d5dd1d887f27c0f33cb1f9fc7c"), looks := true }, kinds := [], alts := [], laidByText := true, laidKinds := [.data, .data, .data, .sentinel, .sentinel], laidTests := true, laidLooks := .later }
def TextNamesCardSaid : Prop := Claim7.holds Tryz.pinned (.plain (OpenSpec.ofChange textNamesSpec)) textNamesCard

/-- THE TIED CARD OF 'daybooklaw05.TextWithin'. -/
def textWithinCard : Claim7 := { stood := { row := textWithinRow, standIns := [], harness := (true, "c698dce7f19393fdd92c65d80580a529c18287d5dd1d887f27c0f33cb1f9fc7c"), looks := true }, kinds := [], alts := [], laidByText := true, laidKinds := [.data, .data, .data, .sentinel, .sentinel], laidTests := true, laidLooks := .later }
def TextWithinCardSaid : Prop := Claim7.holds Tryz.pinned (.plain (OpenSpec.ofChange textWithinSpec)) textWithinCard

/-- THE SECOND FORM's CARD OF 'daybooklaw05.TextParses'. -/
def textParsesUptoCard : Claim7 := { stood := { row := textParsesUptoRow, standIns := [], harness := (true, "c698dce7f19393fdd92c65d80580a529c18287d5dd1d887f27c0f33cb1f9fc7c"), looks := true }, kinds := [], alts := [], laidByText := true, laidKinds := [.data, .data, .data, .sentinel, .sentinel], laidTests := true, laidLooks := .later }
def TextParsesUptoCardSaid : Prop := Claim7.holds Tryz.pinned (.plain (OpenSpec.upto textParsesSpec)) textParsesUptoCard

/-- THE SECOND FORM's CARD OF 'daybooklaw05.TextNames'. -/
def textNamesUptoCard : Claim7 := { stood := { row := textNamesUptoRow, standIns := [], harness := (true, "c698dce7f19393fdd92c65d80580a529c18287d5dd1d887f27c0f33cb1f9fc7c"), looks := true }, kinds := [], alts := [], laidByText := true, laidKinds := [.data, .data, .data, .sentinel, .sentinel], laidTests := true, laidLooks := .later }
def TextNamesUptoCardSaid : Prop := Claim7.holds Tryz.pinned (.plain (OpenSpec.upto textNamesSpec)) textNamesUptoCard

/-- THE SECOND FORM's CARD OF 'daybooklaw05.TextWithin'. -/
def textWithinUptoCard : Claim7 := { stood := { row := textWithinUptoRow, standIns := [], harness := (true, "c698dce7f19393fdd92c65d80580a529c18287d5dd1d887f27c0f33cb1f9fc7c"), looks := true }, kinds := [], alts := [], laidByText := true, laidKinds := [.data, .data, .data, .sentinel, .sentinel], laidTests := true, laidLooks := .later }
def TextWithinUptoCardSaid : Prop := Claim7.holds Tryz.pinned (.plain (OpenSpec.upto textWithinSpec)) textWithinUptoCard
end Rows
end Go.Proofs.YthbighnkohjfnaaGreatDoor
