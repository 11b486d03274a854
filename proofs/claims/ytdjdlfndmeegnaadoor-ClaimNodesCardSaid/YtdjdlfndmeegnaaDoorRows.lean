/-
  NARROWER THAN 'FOR EVERY INPUT', by the rows' own cells (each row's printed sentence says how): ClaimNodes: laid · ClaimReads: loops, laid.
  DERIVED. THE GIVEN ROWS OF THIS SEAT. 2 by the template 'for every input the law returns true; each argument reads behind the call as it read before'; 0 by the template 'total and deterministic' (their statements: YtdjdlfndmeegnaaDoorTotals.lean).
  GIVEN WITH THE SEED: the statements are not yours to turn. If you find one false, say at which input.
  Laid BY PROGRAM, IN A SANDBOX (cutbox-rows.mjs): the forced cells as the released guide's own fill.sh prints them over the translation 932b8968dfe1ecfb… (all of the seat's roots in one cut). By AI agents, Wed Nov 11 2026. No macro, syntax, notation, axiom, sorry.
-/
import Derived.Test.YtdjdlfndmeegnaaDoorChecked
import GoSem.Claim
import GoSem.ClaimJoined
import GoSem.ClaimMapViews
import Derived.JoinedTies
import Derived.KernelRfl
namespace Go.Proofs.YtdjdlfndmeegnaaDoor
/- THE CELL 'sum', in the pinned program and in every row, IS THE sha256 OF THE DUMP (.gsa) THAT YtdjdlfndmeegnaaDoorProg.lean LOADS. Nothing in Lean hashes anything: it is a label: what it is worth is what the hold of that sum in a sandbox is worth. -/
noncomputable def Tryd.pinned : Pinned := { name := "ytdjdlfndmeegnaadoor", sum := "932b8968dfe1ecfbc1be5390ee3b228f80b42e9f916600e5ce2d83f0d8eb20d8", checked := Tryd.checked }
namespace Rows
def none {H : Type} : Left H := { results := [], args := [] }

/- WHAT THE LISTED PACKAGE-LEVEL VARIABLES READ AS WHEN THE CALL BEGINS. Each datum BY PROGRAM (the guide's laid-datum.mjs) off the statement by which the dump's own 'gosem.cut.vars' lays the variable. In a bare row this is a premise. The card (YtdjdlfndmeegnaaDoorCards.lean) ties it to the program's text. -/
def laid_daybook_claim_names {H : Type} : DataW H := .agg [.lit (.string []), .lit (.string [97, 100, 100]), .lit (.string [99, 117, 116]), .lit (.string [103, 111, 110, 101]), .lit (.string [115, 119, 97, 112])]

/-- 'daybooklaw08.ClaimNodes': WHATEVER THE INPUT: true; the input reads as it did. -/
def claimNodesSpec : ChangeSpec := { name := "claimNodes", fn := fun _ => fun
  | [d] => { results := [.lit (.bool true)], args := [d] }
  | _ => none }
def claimNodesRow : OpenClaim := { program := "ytdjdlfndmeegnaadoor", sum := "932b8968dfe1ecfbc1be5390ee3b228f80b42e9f916600e5ce2d83f0d8eb20d8", func := "daybook/daybooklaw08.ClaimNodes", spec := "claimNodes", inPlace := ["internal/bytealg.IndexByteString"], unfollowed := true, recurses := true, named := ["daybook/claim.names"], apart := false, laid := [("daybook/claim.names", laid_daybook_claim_names)] }
def ClaimNodesSaid : Prop := claimNodesRow.holds Tryd.pinned (OpenSpec.ofChange claimNodesSpec)

/-- ITS FALSE NEIGHBOUR: 'it returns false'. Refute it at one input. -/
def claimNodesWrong : ChangeSpec := { name := "claimNodes", fn := fun _ => fun
  | [d] => { results := [.lit (.bool false)], args := [d] }
  | _ => none }
def ClaimNodesWrongFalsely : Prop := claimNodesRow.holds Tryd.pinned (OpenSpec.ofChange claimNodesWrong)

/-- 'daybooklaw08.ClaimReads': WHATEVER THE INPUT: true; the input reads as it did. -/
def claimReadsSpec : ChangeSpec := { name := "claimReads", fn := fun _ => fun
  | [d] => { results := [.lit (.bool true)], args := [d] }
  | _ => none }
def claimReadsRow : OpenClaim := { program := "ytdjdlfndmeegnaadoor", sum := "932b8968dfe1ecfbc1be5390ee3b228f80b42e9f916600e5ce2d83f0d8eb20d8", func := "daybook/daybooklaw08.ClaimReads", spec := "claimReads", inPlace := ["internal/bytealg.IndexByteString"], unfollowed := true, recurses := true, named := ["daybook/claim.names"], loops := true, apart := false, laid := [("daybook/claim.names", laid_daybook_claim_names)] }
def ClaimReadsSaid : Prop := claimReadsRow.holds Tryd.pinned (OpenSpec.ofChange claimReadsSpec)

/-- ITS FALSE NEIGHBOUR: 'it returns false'. Refute it at one input. -/
def claimReadsWrong : ChangeSpec := { name := "claimReads", fn := fun _ => fun
  | [d] => { results := [.lit (.bool false)], args := [d] }
  | _ => none }
def ClaimReadsWrongFalsely : Prop := claimReadsRow.holds Tryd.pinned (OpenSpec.ofChange claimReadsWrong)

/- THE SECOND FORM. 'bulk': how many values and letters a reading holds, each counted each time it is reached (what is shared counts as often as it is met; a slice's spare places count too). A statement '..UptoSaid' is the law's where the arguments, and the package variables that the reading takes, are together of bulk at most 1048576: NARROWER than '..Said'. Prove '..Said' where nothing that the law and all that it calls make is longer than what came in: it says more and counts as full. Else prove '..UptoSaid'. A law counts once. -/
mutual
def uptoBulk {H : Type} : DataW H → Nat
  | .lit (.string bytes) => bytes.length + 1
  | .lit _ => 1
  | .nil => 1
  | .ptr d => uptoBulk d + 1
  | .slice elems spare => uptoBulkAll elems + uptoBulkAll spare + 1
  | .agg parts => uptoBulkAll parts + 1
  | .iface _ d => uptoBulk d + 1
  | .map entries => uptoBulkEntries entries + 1
  | .held _ => 1
def uptoBulkAll {H : Type} : List (DataW H) → Nat
  | [] => 0
  | d :: r => uptoBulk d + uptoBulkAll r
def uptoBulkEntries {H : Type} : List (Lit × DataW H) → Nat
  | [] => 0
  | x :: r => uptoBulkEntry x + uptoBulkEntries r
def uptoBulkEntry {H : Type} : Lit × DataW H → Nat
  | (.string bytes, d) => bytes.length + uptoBulk d + 1
  | (_, d) => uptoBulk d + 1
 end
def uptoSmall : (H : Type) → List (DataW H) → Bool := fun _ ds => decide (uptoBulkAll ds ≤ 1048576)
def OpenSpec.upto (s : _root_.Go.ChangeSpec) : _root_.Go.OpenSpec := { _root_.Go.OpenSpec.ofChange s with cond := some uptoSmall }

/-- 'daybooklaw08.ClaimNodes', WHERE WHAT IT READS IS OF BULK AT MOST 1048576: true; the input reads as it did. -/
def claimNodesUptoRow : OpenClaim := { program := "ytdjdlfndmeegnaadoor", sum := "932b8968dfe1ecfbc1be5390ee3b228f80b42e9f916600e5ce2d83f0d8eb20d8", func := "daybook/daybooklaw08.ClaimNodes", spec := "claimNodes", inPlace := ["internal/bytealg.IndexByteString"], unfollowed := true, recurses := true, named := ["daybook/claim.names"], apart := false, laid := [("daybook/claim.names", laid_daybook_claim_names)], narrowed := true }
def ClaimNodesUptoSaid : Prop := claimNodesUptoRow.holds Tryd.pinned (OpenSpec.upto claimNodesSpec)

/-- 'daybooklaw08.ClaimReads', WHERE WHAT IT READS IS OF BULK AT MOST 1048576: true; the input reads as it did. -/
def claimReadsUptoRow : OpenClaim := { program := "ytdjdlfndmeegnaadoor", sum := "932b8968dfe1ecfbc1be5390ee3b228f80b42e9f916600e5ce2d83f0d8eb20d8", func := "daybook/daybooklaw08.ClaimReads", spec := "claimReads", inPlace := ["internal/bytealg.IndexByteString"], unfollowed := true, recurses := true, named := ["daybook/claim.names"], loops := true, apart := false, laid := [("daybook/claim.names", laid_daybook_claim_names)], narrowed := true }
def ClaimReadsUptoSaid : Prop := claimReadsUptoRow.holds Tryd.pinned (OpenSpec.upto claimReadsSpec)

end Rows
end Go.Proofs.YtdjdlfndmeegnaaDoor
