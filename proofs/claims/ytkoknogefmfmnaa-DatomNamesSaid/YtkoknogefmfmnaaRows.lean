/-
  No cell of these rows narrows 'for every input' (looked for: loops, veiled, ifaces, maps, wideKeys, modest, calm, conditions, laid).
  DERIVED. THE GIVEN ROWS OF THIS SEAT. 5 by the template 'for every input the law returns true; each argument reads behind the call as it read before'; 0 by the template 'total and deterministic' (their statements: YtkoknogefmfmnaaTotals.lean).
  GIVEN WITH THE SEED: the statements are not yours to turn. If you find one false, say at which input.
  Laid BY PROGRAM, IN A SANDBOX (cutbox-rows.mjs): the forced cells as the released guide's own fill.sh prints them over the translation 69de904c09b32f3d… (all of the seat's roots in one cut). By AI agents, Wed Nov 11 2026. No macro, syntax, notation, axiom, sorry.
-/
import Derived.Test.YtkoknogefmfmnaaChecked
import GoSem.Claim
import GoSem.ClaimJoined
import GoSem.ClaimMapViews
import Derived.JoinedTies
import Derived.KernelRfl
namespace Go.Proofs.Ytkoknogefmfmnaa
/- THE CELL 'sum', in the pinned program and in every row, IS THE sha256 OF THE DUMP (.gsa) THAT YtkoknogefmfmnaaProg.lean LOADS. Nothing in Lean hashes anything: it is a label: what it is worth is what the hold of that sum in a sandbox is worth. -/
noncomputable def Try.pinned : Pinned := { name := "ytkoknogefmfmnaa", sum := "69de904c09b32f3d30f009af0cce5463c3971f20211b9ccba42fc6049f20ca05", checked := Try.checked }
namespace Rows
def none {H : Type} : Left H := { results := [], args := [] }

/-- 'daybooklaw01.ValueSorts': WHATEVER THE INPUT: true; the input reads as it did. -/
def valueSortsSpec : ChangeSpec := { name := "valueSorts", fn := fun _ => fun
  | [d] => { results := [.lit (.bool true)], args := [d] }
  | _ => none }
def valueSortsRow : OpenClaim := { program := "ytkoknogefmfmnaa", sum := "69de904c09b32f3d30f009af0cce5463c3971f20211b9ccba42fc6049f20ca05", func := "daybook/daybooklaw01.ValueSorts", spec := "valueSorts", unfollowed := true, recurses := true, apart := false }
def ValueSortsSaid : Prop := valueSortsRow.holds Try.pinned (OpenSpec.ofChange valueSortsSpec)

/-- ITS FALSE NEIGHBOUR: 'it returns false'. Refute it at one input. -/
def valueSortsWrong : ChangeSpec := { name := "valueSorts", fn := fun _ => fun
  | [d] => { results := [.lit (.bool false)], args := [d] }
  | _ => none }
def ValueSortsWrongFalsely : Prop := valueSortsRow.holds Try.pinned (OpenSpec.ofChange valueSortsWrong)

/-- 'daybooklaw04.DatomSorts': WHATEVER THE INPUT: true; the input reads as it did. -/
def datomSortsSpec : ChangeSpec := { name := "datomSorts", fn := fun _ => fun
  | [d1, d2] => { results := [.lit (.bool true)], args := [d1, d2] }
  | _ => none }
def datomSortsRow : OpenClaim := { program := "ytkoknogefmfmnaa", sum := "69de904c09b32f3d30f009af0cce5463c3971f20211b9ccba42fc6049f20ca05", func := "daybook/daybooklaw04.DatomSorts", spec := "datomSorts", unfollowed := true, recurses := true, apart := false }
def DatomSortsSaid : Prop := datomSortsRow.holds Try.pinned (OpenSpec.ofChange datomSortsSpec)

/-- ITS FALSE NEIGHBOUR: 'it returns false'. Refute it at one input. -/
def datomSortsWrong : ChangeSpec := { name := "datomSorts", fn := fun _ => fun
  | [d1, d2] => { results := [.lit (.bool false)], args := [d1, d2] }
  | _ => none }
def DatomSortsWrongFalsely : Prop := datomSortsRow.holds Try.pinned (OpenSpec.ofChange datomSortsWrong)

/-- 'daybooklaw04.DatomOrders': WHATEVER THE INPUT: true; the input reads as it did. -/
def datomOrdersSpec : ChangeSpec := { name := "datomOrders", fn := fun _ => fun
  | [d1, d2, d3] => { results := [.lit (.bool true)], args := [d1, d2, d3] }
  | _ => none }
def datomOrdersRow : OpenClaim := { program := "ytkoknogefmfmnaa", sum := "69de904c09b32f3d30f009af0cce5463c3971f20211b9ccba42fc6049f20ca05", func := "daybook/daybooklaw04.DatomOrders", spec := "datomOrders", unfollowed := true, recurses := true, apart := false }
def DatomOrdersSaid : Prop := datomOrdersRow.holds Try.pinned (OpenSpec.ofChange datomOrdersSpec)

/-- ITS FALSE NEIGHBOUR: 'it returns false'. Refute it at one input. -/
def datomOrdersWrong : ChangeSpec := { name := "datomOrders", fn := fun _ => fun
  | [d1, d2, d3] => { results := [.lit (.bool false)], args := [d1, d2, d3] }
  | _ => none }
def DatomOrdersWrongFalsely : Prop := datomOrdersRow.holds Try.pinned (OpenSpec.ofChange datomOrdersWrong)

/-- 'daybooklaw04.DatomNames': WHATEVER THE INPUT: true; the input reads as it did. -/
def datomNamesSpec : ChangeSpec := { name := "datomNames", fn := fun _ => fun
  | [] => { results := [.lit (.bool true)], args := [] }
  | _ => none }
def datomNamesRow : OpenClaim := { program := "ytkoknogefmfmnaa", sum := "69de904c09b32f3d30f009af0cce5463c3971f20211b9ccba42fc6049f20ca05", func := "daybook/daybooklaw04.DatomNames", spec := "datomNames", inPlace := ["internal/bytealg.IndexByte"], unfollowed := true, recurses := true, apart := false }
def DatomNamesSaid : Prop := datomNamesRow.holds Try.pinned (OpenSpec.ofChange datomNamesSpec)

/-- ITS FALSE NEIGHBOUR: 'it returns false'. Refute it at one input. -/
def datomNamesWrong : ChangeSpec := { name := "datomNames", fn := fun _ => fun
  | [] => { results := [.lit (.bool false)], args := [] }
  | _ => none }
def DatomNamesWrongFalsely : Prop := datomNamesRow.holds Try.pinned (OpenSpec.ofChange datomNamesWrong)

/-- 'daybooklaw05.TextNamed': WHATEVER THE INPUT: true; the input reads as it did. -/
def textNamedSpec : ChangeSpec := { name := "textNamed", fn := fun _ => fun
  | [d] => { results := [.lit (.bool true)], args := [d] }
  | _ => none }
def textNamedRow : OpenClaim := { program := "ytkoknogefmfmnaa", sum := "69de904c09b32f3d30f009af0cce5463c3971f20211b9ccba42fc6049f20ca05", func := "daybook/daybooklaw05.TextNamed", spec := "textNamed", inPlace := ["internal/bytealg.IndexByteString"], unfollowed := true, recurses := true, apart := false }
def TextNamedSaid : Prop := textNamedRow.holds Try.pinned (OpenSpec.ofChange textNamedSpec)

/-- ITS FALSE NEIGHBOUR: 'it returns false'. Refute it at one input. -/
def textNamedWrong : ChangeSpec := { name := "textNamed", fn := fun _ => fun
  | [d] => { results := [.lit (.bool false)], args := [d] }
  | _ => none }
def TextNamedWrongFalsely : Prop := textNamedRow.holds Try.pinned (OpenSpec.ofChange textNamedWrong)

/- THE SECOND FORM. 'bulk': how many values and letters a reading holds, each counted each time it is reached (what is shared counts as often as it is met; a slice's spare places count too). A statement '..UptoSaid' is the law's where the arguments, and the package variables that the reading takes, are together of bulk at most 1048576: NARROWER than '..Said'. Prove '..Said' where nothing that the law and all that it calls make is longer than what came in: it says more and counts as full. Else prove '..UptoSaid'. A law counts once. -/
mutual
def uptoBulk {H : Type} : DataW H → Nat
  | .lit (.string bytes) => bytes.length + 1
  | .lit _ => 1
  | .nil => 1
  | .ptr d => uptoBulk d + 1
  | .slice elems spare => uptoBulkAll elems + uptoBulkAll spare + 1
  | .agg parts => uptoBulkAll parts + 1
  | .iface _ d => uptoBulk d + 1
  | .map entries => uptoBulkEntries entries + 1
  | .held _ => 1
def uptoBulkAll {H : Type} : List (DataW H) → Nat
  | [] => 0
  | d :: r => uptoBulk d + uptoBulkAll r
def uptoBulkEntries {H : Type} : List (Lit × DataW H) → Nat
  | [] => 0
  | x :: r => uptoBulkEntry x + uptoBulkEntries r
def uptoBulkEntry {H : Type} : Lit × DataW H → Nat
  | (.string bytes, d) => bytes.length + uptoBulk d + 1
  | (_, d) => uptoBulk d + 1
 end
def uptoSmall : (H : Type) → List (DataW H) → Bool := fun _ ds => decide (uptoBulkAll ds ≤ 1048576)
def OpenSpec.upto (s : _root_.Go.ChangeSpec) : _root_.Go.OpenSpec := { _root_.Go.OpenSpec.ofChange s with cond := some uptoSmall }

/-- 'daybooklaw01.ValueSorts', WHERE WHAT IT READS IS OF BULK AT MOST 1048576: true; the input reads as it did. -/
def valueSortsUptoRow : OpenClaim := { program := "ytkoknogefmfmnaa", sum := "69de904c09b32f3d30f009af0cce5463c3971f20211b9ccba42fc6049f20ca05", func := "daybook/daybooklaw01.ValueSorts", spec := "valueSorts", unfollowed := true, recurses := true, apart := false, narrowed := true }
def ValueSortsUptoSaid : Prop := valueSortsUptoRow.holds Try.pinned (OpenSpec.upto valueSortsSpec)

/-- 'daybooklaw04.DatomSorts', WHERE WHAT IT READS IS OF BULK AT MOST 1048576: true; the input reads as it did. -/
def datomSortsUptoRow : OpenClaim := { program := "ytkoknogefmfmnaa", sum := "69de904c09b32f3d30f009af0cce5463c3971f20211b9ccba42fc6049f20ca05", func := "daybook/daybooklaw04.DatomSorts", spec := "datomSorts", unfollowed := true, recurses := true, apart := false, narrowed := true }
def DatomSortsUptoSaid : Prop := datomSortsUptoRow.holds Try.pinned (OpenSpec.upto datomSortsSpec)

/-- 'daybooklaw04.DatomOrders', WHERE WHAT IT READS IS OF BULK AT MOST 1048576: true; the input reads as it did. -/
def datomOrdersUptoRow : OpenClaim := { program := "ytkoknogefmfmnaa", sum := "69de904c09b32f3d30f009af0cce5463c3971f20211b9ccba42fc6049f20ca05", func := "daybook/daybooklaw04.DatomOrders", spec := "datomOrders", unfollowed := true, recurses := true, apart := false, narrowed := true }
def DatomOrdersUptoSaid : Prop := datomOrdersUptoRow.holds Try.pinned (OpenSpec.upto datomOrdersSpec)

/-- 'daybooklaw04.DatomNames', WHERE WHAT IT READS IS OF BULK AT MOST 1048576: true; the input reads as it did. -/
def datomNamesUptoRow : OpenClaim := { program := "ytkoknogefmfmnaa", sum := "69de904c09b32f3d30f009af0cce5463c3971f20211b9ccba42fc6049f20ca05", func := "daybook/daybooklaw04.DatomNames", spec := "datomNames", inPlace := ["internal/bytealg.IndexByte"], unfollowed := true, recurses := true, apart := false, narrowed := true }
def DatomNamesUptoSaid : Prop := datomNamesUptoRow.holds Try.pinned (OpenSpec.upto datomNamesSpec)

/-- 'daybooklaw05.TextNamed', WHERE WHAT IT READS IS OF BULK AT MOST 1048576: true; the input reads as it did. -/
def textNamedUptoRow : OpenClaim := { program := "ytkoknogefmfmnaa", sum := "69de904c09b32f3d30f009af0cce5463c3971f20211b9ccba42fc6049f20ca05", func := "daybook/daybooklaw05.TextNamed", spec := "textNamed", inPlace := ["internal/bytealg.IndexByteString"], unfollowed := true, recurses := true, apart := false, narrowed := true }
def TextNamedUptoSaid : Prop := textNamedUptoRow.holds Try.pinned (OpenSpec.upto textNamedSpec)

end Rows
end Go.Proofs.Ytkoknogefmfmnaa
