/-
  No cell of these rows narrows 'for every input' (looked for: loops, veiled, ifaces, maps, wideKeys, modest, calm, conditions, laid).
  DERIVED. THE GIVEN ROWS OF THIS SEAT. 7 by the template 'for every input the law returns true; each argument reads behind the call as it read before'; 0 by the template 'total and deterministic' (their statements: YtofmfainhflmmaaTotals.lean).
  GIVEN WITH THE SEED: the statements are not yours to turn. If you find one false, say at which input.
  Laid BY PROGRAM, IN A SANDBOX (cutbox-rows.mjs): the forced cells as the released guide's own fill.sh prints them over the translation 0b8fefed5284cc98… (all of the seat's roots in one cut). By AI agents, Wed Nov 11 2026. No macro, syntax, notation, axiom, sorry.
-/
import Derived.Test.YtofmfainhflmmaaChecked
import GoSem.Claim
import GoSem.ClaimJoined
import GoSem.ClaimMapViews
import Derived.JoinedTies
import Derived.KernelRfl
namespace Go.Proofs.Ytofmfainhflmmaa
/- THE CELL 'sum', in the pinned program and in every row, IS THE sha256 OF THE DUMP (.gsa) THAT YtofmfainhflmmaaProg.lean LOADS. Nothing in Lean hashes anything: it is a label: what it is worth is what the hold of that sum in a sandbox is worth. -/
noncomputable def Try.pinned : Pinned := { name := "ytofmfainhflmmaa", sum := "0b8fefed5284cc98366483bed35ecd3a8db5f73895efc4e3470a084f26720d03", checked := Try.checked }
namespace Rows
def none {H : Type} : Left H := { results := [], args := [] }

/-- 'daybooklaw16.FoldTotals': WHATEVER THE INPUT: true; the input reads as it did. -/
def foldTotalsSpec : ChangeSpec := { name := "foldTotals", fn := fun _ => fun
  | [d] => { results := [.lit (.bool true)], args := [d] }
  | _ => none }
def foldTotalsRow : OpenClaim := { program := "ytofmfainhflmmaa", sum := "0b8fefed5284cc98366483bed35ecd3a8db5f73895efc4e3470a084f26720d03", func := "daybook/daybooklaw16.FoldTotals", spec := "foldTotals", inPlace := ["math/bits.Add64"], apart := false }
def FoldTotalsSaid : Prop := foldTotalsRow.holds Try.pinned (OpenSpec.ofChange foldTotalsSpec)

/-- ITS FALSE NEIGHBOUR: 'it returns false'. Refute it at one input. -/
def foldTotalsWrong : ChangeSpec := { name := "foldTotals", fn := fun _ => fun
  | [d] => { results := [.lit (.bool false)], args := [d] }
  | _ => none }
def FoldTotalsWrongFalsely : Prop := foldTotalsRow.holds Try.pinned (OpenSpec.ofChange foldTotalsWrong)

/-- 'daybooklaw16.FoldGroups': WHATEVER THE INPUT: true; the input reads as it did. -/
def foldGroupsSpec : ChangeSpec := { name := "foldGroups", fn := fun _ => fun
  | [d1, d2] => { results := [.lit (.bool true)], args := [d1, d2] }
  | _ => none }
def foldGroupsRow : OpenClaim := { program := "ytofmfainhflmmaa", sum := "0b8fefed5284cc98366483bed35ecd3a8db5f73895efc4e3470a084f26720d03", func := "daybook/daybooklaw16.FoldGroups", spec := "foldGroups", unfollowed := true, recurses := true, apart := false }
def FoldGroupsSaid : Prop := foldGroupsRow.holds Try.pinned (OpenSpec.ofChange foldGroupsSpec)

/-- ITS FALSE NEIGHBOUR: 'it returns false'. Refute it at one input. -/
def foldGroupsWrong : ChangeSpec := { name := "foldGroups", fn := fun _ => fun
  | [d1, d2] => { results := [.lit (.bool false)], args := [d1, d2] }
  | _ => none }
def FoldGroupsWrongFalsely : Prop := foldGroupsRow.holds Try.pinned (OpenSpec.ofChange foldGroupsWrong)

/-- 'daybooklaw14.RowsMeets': WHATEVER THE INPUT: true; the input reads as it did. -/
def rowsMeetsSpec : ChangeSpec := { name := "rowsMeets", fn := fun _ => fun
  | [d1, d2] => { results := [.lit (.bool true)], args := [d1, d2] }
  | _ => none }
def rowsMeetsRow : OpenClaim := { program := "ytofmfainhflmmaa", sum := "0b8fefed5284cc98366483bed35ecd3a8db5f73895efc4e3470a084f26720d03", func := "daybook/daybooklaw14.RowsMeets", spec := "rowsMeets", unfollowed := true, recurses := true, apart := false }
def RowsMeetsSaid : Prop := rowsMeetsRow.holds Try.pinned (OpenSpec.ofChange rowsMeetsSpec)

/-- ITS FALSE NEIGHBOUR: 'it returns false'. Refute it at one input. -/
def rowsMeetsWrong : ChangeSpec := { name := "rowsMeets", fn := fun _ => fun
  | [d1, d2] => { results := [.lit (.bool false)], args := [d1, d2] }
  | _ => none }
def RowsMeetsWrongFalsely : Prop := rowsMeetsRow.holds Try.pinned (OpenSpec.ofChange rowsMeetsWrong)

/-- 'daybooklaw14.RowsNames': WHATEVER THE INPUT: true; the input reads as it did. -/
def rowsNamesSpec : ChangeSpec := { name := "rowsNames", fn := fun _ => fun
  | [] => { results := [.lit (.bool true)], args := [] }
  | _ => none }
def rowsNamesRow : OpenClaim := { program := "ytofmfainhflmmaa", sum := "0b8fefed5284cc98366483bed35ecd3a8db5f73895efc4e3470a084f26720d03", func := "daybook/daybooklaw14.RowsNames", spec := "rowsNames", unfollowed := true, recurses := true, apart := false }
def RowsNamesSaid : Prop := rowsNamesRow.holds Try.pinned (OpenSpec.ofChange rowsNamesSpec)

/-- ITS FALSE NEIGHBOUR: 'it returns false'. Refute it at one input. -/
def rowsNamesWrong : ChangeSpec := { name := "rowsNames", fn := fun _ => fun
  | [] => { results := [.lit (.bool false)], args := [] }
  | _ => none }
def RowsNamesWrongFalsely : Prop := rowsNamesRow.holds Try.pinned (OpenSpec.ofChange rowsNamesWrong)

/-- 'daybooklaw14.RowsAgain': WHATEVER THE INPUT: true; the input reads as it did. -/
def rowsAgainSpec : ChangeSpec := { name := "rowsAgain", fn := fun _ => fun
  | [d1, d2] => { results := [.lit (.bool true)], args := [d1, d2] }
  | _ => none }
def rowsAgainRow : OpenClaim := { program := "ytofmfainhflmmaa", sum := "0b8fefed5284cc98366483bed35ecd3a8db5f73895efc4e3470a084f26720d03", func := "daybook/daybooklaw14.RowsAgain", spec := "rowsAgain", unfollowed := true, recurses := true, apart := false }
def RowsAgainSaid : Prop := rowsAgainRow.holds Try.pinned (OpenSpec.ofChange rowsAgainSpec)

/-- ITS FALSE NEIGHBOUR: 'it returns false'. Refute it at one input. -/
def rowsAgainWrong : ChangeSpec := { name := "rowsAgain", fn := fun _ => fun
  | [d1, d2] => { results := [.lit (.bool false)], args := [d1, d2] }
  | _ => none }
def RowsAgainWrongFalsely : Prop := rowsAgainRow.holds Try.pinned (OpenSpec.ofChange rowsAgainWrong)

/-- 'daybooklaw14.RowsParts': WHATEVER THE INPUT: true; the input reads as it did. -/
def rowsPartsSpec : ChangeSpec := { name := "rowsParts", fn := fun _ => fun
  | [d1, d2] => { results := [.lit (.bool true)], args := [d1, d2] }
  | _ => none }
def rowsPartsRow : OpenClaim := { program := "ytofmfainhflmmaa", sum := "0b8fefed5284cc98366483bed35ecd3a8db5f73895efc4e3470a084f26720d03", func := "daybook/daybooklaw14.RowsParts", spec := "rowsParts", unfollowed := true, recurses := true, apart := false }
def RowsPartsSaid : Prop := rowsPartsRow.holds Try.pinned (OpenSpec.ofChange rowsPartsSpec)

/-- ITS FALSE NEIGHBOUR: 'it returns false'. Refute it at one input. -/
def rowsPartsWrong : ChangeSpec := { name := "rowsParts", fn := fun _ => fun
  | [d1, d2] => { results := [.lit (.bool false)], args := [d1, d2] }
  | _ => none }
def RowsPartsWrongFalsely : Prop := rowsPartsRow.holds Try.pinned (OpenSpec.ofChange rowsPartsWrong)

/-- 'daybooklaw14.RowsTurned': WHATEVER THE INPUT: true; the input reads as it did. -/
def rowsTurnedSpec : ChangeSpec := { name := "rowsTurned", fn := fun _ => fun
  | [d1, d2] => { results := [.lit (.bool true)], args := [d1, d2] }
  | _ => none }
def rowsTurnedRow : OpenClaim := { program := "ytofmfainhflmmaa", sum := "0b8fefed5284cc98366483bed35ecd3a8db5f73895efc4e3470a084f26720d03", func := "daybook/daybooklaw14.RowsTurned", spec := "rowsTurned", unfollowed := true, recurses := true, apart := false }
def RowsTurnedSaid : Prop := rowsTurnedRow.holds Try.pinned (OpenSpec.ofChange rowsTurnedSpec)

/-- ITS FALSE NEIGHBOUR: 'it returns false'. Refute it at one input. -/
def rowsTurnedWrong : ChangeSpec := { name := "rowsTurned", fn := fun _ => fun
  | [d1, d2] => { results := [.lit (.bool false)], args := [d1, d2] }
  | _ => none }
def RowsTurnedWrongFalsely : Prop := rowsTurnedRow.holds Try.pinned (OpenSpec.ofChange rowsTurnedWrong)

/- THE SECOND FORM. 'bulk': how many values and letters a reading holds, each counted each time it is reached (what is shared counts as often as it is met; a slice's spare places count too). A statement '..UptoSaid' is the law's where the arguments, and the package variables that the reading takes, are together of bulk at most 1048576: NARROWER than '..Said'. Prove '..Said' where nothing that the law and all that it calls make is longer than what came in: it says more and counts as full. Else prove '..UptoSaid'. A law counts once. -/
mutual
def uptoBulk {H : Type} : DataW H → Nat
  | .lit (.string bytes) => bytes.length + 1
  | .lit _ => 1
  | .nil => 1
  | .ptr d => uptoBulk d + 1
  | .slice elems spare => uptoBulkAll elems + uptoBulkAll spare + 1
  | .agg parts => uptoBulkAll parts + 1
  | .iface _ d => uptoBulk d + 1
  | .map entries => uptoBulkEntries entries + 1
  | .held _ => 1
def uptoBulkAll {H : Type} : List (DataW H) → Nat
  | [] => 0
  | d :: r => uptoBulk d + uptoBulkAll r
def uptoBulkEntries {H : Type} : List (Lit × DataW H) → Nat
  | [] => 0
  | x :: r => uptoBulkEntry x + uptoBulkEntries r
def uptoBulkEntry {H : Type} : Lit × DataW H → Nat
  | (.string bytes, d) => bytes.length + uptoBulk d + 1
  | (_, d) => uptoBulk d + 1
 end
def uptoSmall : (H : Type) → List (DataW H) → Bool := fun _ ds => decide (uptoBulkAll ds ≤ 1048576)
def OpenSpec.upto (s : _root_.Go.ChangeSpec) : _root_.Go.OpenSpec := { _root_.Go.OpenSpec.ofChange s with cond := some uptoSmall }

/-- 'daybooklaw16.FoldTotals', WHERE WHAT IT READS IS OF BULK AT MOST 1048576: true; the input reads as it did. -/
def foldTotalsUptoRow : OpenClaim := { program := "ytofmfainhflmmaa", sum := "0b8fefed5284cc98366483bed35ecd3a8db5f73895efc4e3470a084f26720d03", func := "daybook/daybooklaw16.FoldTotals", spec := "foldTotals", inPlace := ["math/bits.Add64"], apart := false, narrowed := true }
def FoldTotalsUptoSaid : Prop := foldTotalsUptoRow.holds Try.pinned (OpenSpec.upto foldTotalsSpec)

/-- 'daybooklaw16.FoldGroups', WHERE WHAT IT READS IS OF BULK AT MOST 1048576: true; the input reads as it did. -/
def foldGroupsUptoRow : OpenClaim := { program := "ytofmfainhflmmaa", sum := "0b8fefed5284cc98366483bed35ecd3a8db5f73895efc4e3470a084f26720d03", func := "daybook/daybooklaw16.FoldGroups", spec := "foldGroups", unfollowed := true, recurses := true, apart := false, narrowed := true }
def FoldGroupsUptoSaid : Prop := foldGroupsUptoRow.holds Try.pinned (OpenSpec.upto foldGroupsSpec)

/-- 'daybooklaw14.RowsMeets', WHERE WHAT IT READS IS OF BULK AT MOST 1048576: true; the input reads as it did. -/
def rowsMeetsUptoRow : OpenClaim := { program := "ytofmfainhflmmaa", sum := "0b8fefed5284cc98366483bed35ecd3a8db5f73895efc4e3470a084f26720d03", func := "daybook/daybooklaw14.RowsMeets", spec := "rowsMeets", unfollowed := true, recurses := true, apart := false, narrowed := true }
def RowsMeetsUptoSaid : Prop := rowsMeetsUptoRow.holds Try.pinned (OpenSpec.upto rowsMeetsSpec)

/-- 'daybooklaw14.RowsNames', WHERE WHAT IT READS IS OF BULK AT MOST 1048576: true; the input reads as it did. -/
def rowsNamesUptoRow : OpenClaim := { program := "ytofmfainhflmmaa", sum := "0b8fefed5284cc98366483bed35ecd3a8db5f73895efc4e3470a084f26720d03", func := "daybook/daybooklaw14.RowsNames", spec := "rowsNames", unfollowed := true, recurses := true, apart := false, narrowed := true }
def RowsNamesUptoSaid : Prop := rowsNamesUptoRow.holds Try.pinned (OpenSpec.upto rowsNamesSpec)

/-- 'daybooklaw14.RowsAgain', WHERE WHAT IT READS IS OF BULK AT MOST 1048576: true; the input reads as it did. -/
def rowsAgainUptoRow : OpenClaim := { program := "ytofmfainhflmmaa", sum := "0b8fefed5284cc98366483bed35ecd3a8db5f73895efc4e3470a084f26720d03", func := "daybook/daybooklaw14.RowsAgain", spec := "rowsAgain", unfollowed := true, recurses := true, apart := false, narrowed := true }
def RowsAgainUptoSaid : Prop := rowsAgainUptoRow.holds Try.pinned (OpenSpec.upto rowsAgainSpec)

/-- 'daybooklaw14.RowsParts', WHERE WHAT IT READS IS OF BULK AT MOST 1048576: true; the input reads as it did. -/
def rowsPartsUptoRow : OpenClaim := { program := "ytofmfainhflmmaa", sum := "0b8fefed5284cc98366483bed35ecd3a8db5f73895efc4e3470a084f26720d03", func := "daybook/daybooklaw14.RowsParts", spec := "rowsParts", unfollowed := true, recurses := true, apart := false, narrowed := true }
def RowsPartsUptoSaid : Prop := rowsPartsUptoRow.holds Try.pinned (OpenSpec.upto rowsPartsSpec)

/-- 'daybooklaw14.RowsTurned', WHERE WHAT IT READS IS OF BULK AT MOST 1048576: true; the input reads as it did. -/
def rowsTurnedUptoRow : OpenClaim := { program := "ytofmfainhflmmaa", sum := "0b8fefed5284cc98366483bed35ecd3a8db5f73895efc4e3470a084f26720d03", func := "daybook/daybooklaw14.RowsTurned", spec := "rowsTurned", unfollowed := true, recurses := true, apart := false, narrowed := true }
def RowsTurnedUptoSaid : Prop := rowsTurnedUptoRow.holds Try.pinned (OpenSpec.upto rowsTurnedSpec)

end Rows
end Go.Proofs.Ytofmfainhflmmaa
