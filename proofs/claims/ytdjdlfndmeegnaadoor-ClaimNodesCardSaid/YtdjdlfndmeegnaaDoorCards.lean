/-
  DERIVED. GIVEN WITH THE SEED: THE CARDS: each row of YtdjdlfndmeegnaaDoorRows.lean that lists a variable, with what it lists TIED to the program's text (the seventh form; the later family's looks); each row that meets fmt, with fmt's text TOLD by the authors' own Lean function (tested against real Go, not proved from fmt's source: count such statements apart). THE CARD IS WHAT COUNTS. Prove the row's statement (the work); the ties are given (YtdjdlfndmeegnaaDoorTie.lean); close each card by the builder's one call (the guide's Derived/Test/ToyasCard.lean, 'card_holds'). Laid BY PROGRAM, IN A SANDBOX (cutbox-door.mjs). By AI agents, Wed Nov 11 2026. No macro, syntax, notation, axiom, sorry.
-/
import Derived.Test.YtdjdlfndmeegnaaDoorRows
import GoSem.ClaimSeven
namespace Go.Proofs.YtdjdlfndmeegnaaDoor
namespace Rows

/-- THE TIED CARD OF 'daybooklaw08.ClaimNodes'. -/
def claimNodesCard : Claim7 := { stood := { row := claimNodesRow, standIns := [], harness := (true, "7008937717fde48bf6c52c87f73a37e54bd7672258b26a3eddee86ac44aebc94"), looks := false }, kinds := [], alts := [], laidByText := true, laidKinds := [.data], laidTests := true, laidLooks := .later }
def ClaimNodesCardSaid : Prop := Claim7.holds Tryd.pinned (.plain (OpenSpec.ofChange claimNodesSpec)) claimNodesCard

/-- THE TIED CARD OF 'daybooklaw08.ClaimReads'. -/
def claimReadsCard : Claim7 := { stood := { row := claimReadsRow, standIns := [], harness := (true, "7008937717fde48bf6c52c87f73a37e54bd7672258b26a3eddee86ac44aebc94"), looks := false }, kinds := [], alts := [], laidByText := true, laidKinds := [.data], laidTests := true, laidLooks := .later }
def ClaimReadsCardSaid : Prop := Claim7.holds Tryd.pinned (.plain (OpenSpec.ofChange claimReadsSpec)) claimReadsCard

/-- THE SECOND FORM's CARD OF 'daybooklaw08.ClaimNodes'. -/
def claimNodesUptoCard : Claim7 := { stood := { row := claimNodesUptoRow, standIns := [], harness := (true, "7008937717fde48bf6c52c87f73a37e54bd7672258b26a3eddee86ac44aebc94"), looks := false }, kinds := [], alts := [], laidByText := true, laidKinds := [.data], laidTests := true, laidLooks := .later }
def ClaimNodesUptoCardSaid : Prop := Claim7.holds Tryd.pinned (.plain (OpenSpec.upto claimNodesSpec)) claimNodesUptoCard

/-- THE SECOND FORM's CARD OF 'daybooklaw08.ClaimReads'. -/
def claimReadsUptoCard : Claim7 := { stood := { row := claimReadsUptoRow, standIns := [], harness := (true, "7008937717fde48bf6c52c87f73a37e54bd7672258b26a3eddee86ac44aebc94"), looks := false }, kinds := [], alts := [], laidByText := true, laidKinds := [.data], laidTests := true, laidLooks := .later }
def ClaimReadsUptoCardSaid : Prop := Claim7.holds Tryd.pinned (.plain (OpenSpec.upto claimReadsSpec)) claimReadsUptoCard
end Rows
end Go.Proofs.YtdjdlfndmeegnaaDoor
