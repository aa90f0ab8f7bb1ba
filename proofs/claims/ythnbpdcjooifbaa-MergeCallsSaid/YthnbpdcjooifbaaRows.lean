/-
  No cell of these rows narrows 'for every input' (looked for: loops, veiled, ifaces, maps, wideKeys, modest, calm, conditions, laid).
  DERIVED. THE GIVEN ROWS OF THIS SEAT. 6 by the template 'for every input the law returns true; each argument reads behind the call as it read before'; 0 by the template 'total and deterministic' (their statements: YthnbpdcjooifbaaTotals.lean).
  GIVEN WITH THE SEED: the statements are not yours to turn. If you find one false, say at which input.
  Laid BY PROGRAM, IN A SANDBOX (cutbox-rows.mjs): the forced cells as the released guide's own fill.sh prints them over the translation fecb11a5f5f95b5f… (all of the seat's roots in one cut). By AI agents, Wed Nov 11 2026. No macro, syntax, notation, axiom, sorry.
-/
import Derived.Test.YthnbpdcjooifbaaChecked
import GoSem.Claim
import GoSem.ClaimJoined
import GoSem.ClaimMapViews
import Derived.JoinedTies
import Derived.KernelRfl
namespace Go.Proofs.Ythnbpdcjooifbaa
/- THE CELL 'sum', in the pinned program and in every row, IS THE sha256 OF THE DUMP (.gsa) THAT YthnbpdcjooifbaaProg.lean LOADS. Nothing in Lean hashes anything: it is a label: what it is worth is what the hold of that sum in a sandbox is worth. -/
noncomputable def Try.pinned : Pinned := { name := "ythnbpdcjooifbaa", sum := "fecb11a5f5f95b5f461d02d1ff48dd67ab991548cf92e6fa864bf7338e918e38", checked := Try.checked }
namespace Rows
def none {H : Type} : Left H := { results := [], args := [] }

/-- 'pendulumlaw04.MergeNames': WHATEVER THE INPUT: true; the input reads as it did. -/
def mergeNamesSpec : ChangeSpec := { name := "mergeNames", fn := fun _ => fun
  | [] => { results := [.lit (.bool true)], args := [] }
  | _ => none }
def mergeNamesRow : OpenClaim := { program := "ythnbpdcjooifbaa", sum := "fecb11a5f5f95b5f461d02d1ff48dd67ab991548cf92e6fa864bf7338e918e38", func := "pendulum/pendulumlaw04.MergeNames", spec := "mergeNames", unfollowed := true, recurses := true, apart := false }
def MergeNamesSaid : Prop := mergeNamesRow.holds Try.pinned (OpenSpec.ofChange mergeNamesSpec)

/-- ITS FALSE NEIGHBOUR: 'it returns false'. Refute it at one input. -/
def mergeNamesWrong : ChangeSpec := { name := "mergeNames", fn := fun _ => fun
  | [] => { results := [.lit (.bool false)], args := [] }
  | _ => none }
def MergeNamesWrongFalsely : Prop := mergeNamesRow.holds Try.pinned (OpenSpec.ofChange mergeNamesWrong)

/-- 'pendulumlaw04.MergeCalls': WHATEVER THE INPUT: true; the input reads as it did. -/
def mergeCallsSpec : ChangeSpec := { name := "mergeCalls", fn := fun _ => fun
  | [d1, d2, d3, d4] => { results := [.lit (.bool true)], args := [d1, d2, d3, d4] }
  | _ => none }
def mergeCallsRow : OpenClaim := { program := "ythnbpdcjooifbaa", sum := "fecb11a5f5f95b5f461d02d1ff48dd67ab991548cf92e6fa864bf7338e918e38", func := "pendulum/pendulumlaw04.MergeCalls", spec := "mergeCalls", unfollowed := true, recurses := true, apart := false }
def MergeCallsSaid : Prop := mergeCallsRow.holds Try.pinned (OpenSpec.ofChange mergeCallsSpec)

/-- ITS FALSE NEIGHBOUR: 'it returns false'. Refute it at one input. -/
def mergeCallsWrong : ChangeSpec := { name := "mergeCalls", fn := fun _ => fun
  | [d1, d2, d3, d4] => { results := [.lit (.bool false)], args := [d1, d2, d3, d4] }
  | _ => none }
def MergeCallsWrongFalsely : Prop := mergeCallsRow.holds Try.pinned (OpenSpec.ofChange mergeCallsWrong)

/-- 'pendulumlaw04.MergeParts': WHATEVER THE INPUT: true; the input reads as it did. -/
def mergePartsSpec : ChangeSpec := { name := "mergeParts", fn := fun _ => fun
  | [d1, d2] => { results := [.lit (.bool true)], args := [d1, d2] }
  | _ => none }
def mergePartsRow : OpenClaim := { program := "ythnbpdcjooifbaa", sum := "fecb11a5f5f95b5f461d02d1ff48dd67ab991548cf92e6fa864bf7338e918e38", func := "pendulum/pendulumlaw04.MergeParts", spec := "mergeParts", unfollowed := true, recurses := true, apart := false }
def MergePartsSaid : Prop := mergePartsRow.holds Try.pinned (OpenSpec.ofChange mergePartsSpec)

/-- ITS FALSE NEIGHBOUR: 'it returns false'. Refute it at one input. -/
def mergePartsWrong : ChangeSpec := { name := "mergeParts", fn := fun _ => fun
  | [d1, d2] => { results := [.lit (.bool false)], args := [d1, d2] }
  | _ => none }
def MergePartsWrongFalsely : Prop := mergePartsRow.holds Try.pinned (OpenSpec.ofChange mergePartsWrong)

/-- 'pendulumlaw04.MergeBrackets': WHATEVER THE INPUT: true; the input reads as it did. -/
def mergeBracketsSpec : ChangeSpec := { name := "mergeBrackets", fn := fun _ => fun
  | [d1, d2, d3] => { results := [.lit (.bool true)], args := [d1, d2, d3] }
  | _ => none }
def mergeBracketsRow : OpenClaim := { program := "ythnbpdcjooifbaa", sum := "fecb11a5f5f95b5f461d02d1ff48dd67ab991548cf92e6fa864bf7338e918e38", func := "pendulum/pendulumlaw04.MergeBrackets", spec := "mergeBrackets", unfollowed := true, recurses := true, apart := false }
def MergeBracketsSaid : Prop := mergeBracketsRow.holds Try.pinned (OpenSpec.ofChange mergeBracketsSpec)

/-- ITS FALSE NEIGHBOUR: 'it returns false'. Refute it at one input. -/
def mergeBracketsWrong : ChangeSpec := { name := "mergeBrackets", fn := fun _ => fun
  | [d1, d2, d3] => { results := [.lit (.bool false)], args := [d1, d2, d3] }
  | _ => none }
def MergeBracketsWrongFalsely : Prop := mergeBracketsRow.holds Try.pinned (OpenSpec.ofChange mergeBracketsWrong)

/-- 'pendulumlaw04.MergeCuts': WHATEVER THE INPUT: true; the input reads as it did. -/
def mergeCutsSpec : ChangeSpec := { name := "mergeCuts", fn := fun _ => fun
  | [d1, d2, d3] => { results := [.lit (.bool true)], args := [d1, d2, d3] }
  | _ => none }
def mergeCutsRow : OpenClaim := { program := "ythnbpdcjooifbaa", sum := "fecb11a5f5f95b5f461d02d1ff48dd67ab991548cf92e6fa864bf7338e918e38", func := "pendulum/pendulumlaw04.MergeCuts", spec := "mergeCuts", unfollowed := true, recurses := true, apart := false }
def MergeCutsSaid : Prop := mergeCutsRow.holds Try.pinned (OpenSpec.ofChange mergeCutsSpec)

/-- ITS FALSE NEIGHBOUR: 'it returns false'. Refute it at one input. -/
def mergeCutsWrong : ChangeSpec := { name := "mergeCuts", fn := fun _ => fun
  | [d1, d2, d3] => { results := [.lit (.bool false)], args := [d1, d2, d3] }
  | _ => none }
def MergeCutsWrongFalsely : Prop := mergeCutsRow.holds Try.pinned (OpenSpec.ofChange mergeCutsWrong)

/-- 'pendulumlaw04.MergeCounts': WHATEVER THE INPUT: true; the input reads as it did. -/
def mergeCountsSpec : ChangeSpec := { name := "mergeCounts", fn := fun _ => fun
  | [d] => { results := [.lit (.bool true)], args := [d] }
  | _ => none }
def mergeCountsRow : OpenClaim := { program := "ythnbpdcjooifbaa", sum := "fecb11a5f5f95b5f461d02d1ff48dd67ab991548cf92e6fa864bf7338e918e38", func := "pendulum/pendulumlaw04.MergeCounts", spec := "mergeCounts", unfollowed := true, recurses := true, apart := false }
def MergeCountsSaid : Prop := mergeCountsRow.holds Try.pinned (OpenSpec.ofChange mergeCountsSpec)

/-- ITS FALSE NEIGHBOUR: 'it returns false'. Refute it at one input. -/
def mergeCountsWrong : ChangeSpec := { name := "mergeCounts", fn := fun _ => fun
  | [d] => { results := [.lit (.bool false)], args := [d] }
  | _ => none }
def MergeCountsWrongFalsely : Prop := mergeCountsRow.holds Try.pinned (OpenSpec.ofChange mergeCountsWrong)

/- THE SECOND FORM. 'bulk': how many values and letters a reading holds, each counted each time it is reached (what is shared counts as often as it is met; a slice's spare places count too). A statement '..UptoSaid' is the law's where the arguments, and the package variables that the reading takes, are together of bulk at most 1048576: NARROWER than '..Said'. Prove '..Said' where nothing that the law and all that it calls make is longer than what came in: it says more and counts as full. Else prove '..UptoSaid'. A law counts once. -/
mutual
def uptoBulk {H : Type} : DataW H → Nat
  | .lit (.string bytes) => bytes.length + 1
  | .lit _ => 1
  | .nil => 1
  | .ptr d => uptoBulk d + 1
  | .slice elems spare => uptoBulkAll elems + uptoBulkAll spare + 1
  | .agg parts => uptoBulkAll parts + 1
  | .iface _ d => uptoBulk d + 1
  | .map entries => uptoBulkEntries entries + 1
  | .held _ => 1
def uptoBulkAll {H : Type} : List (DataW H) → Nat
  | [] => 0
  | d :: r => uptoBulk d + uptoBulkAll r
def uptoBulkEntries {H : Type} : List (Lit × DataW H) → Nat
  | [] => 0
  | x :: r => uptoBulkEntry x + uptoBulkEntries r
def uptoBulkEntry {H : Type} : Lit × DataW H → Nat
  | (.string bytes, d) => bytes.length + uptoBulk d + 1
  | (_, d) => uptoBulk d + 1
 end
def uptoSmall : (H : Type) → List (DataW H) → Bool := fun _ ds => decide (uptoBulkAll ds ≤ 1048576)
def OpenSpec.upto (s : _root_.Go.ChangeSpec) : _root_.Go.OpenSpec := { _root_.Go.OpenSpec.ofChange s with cond := some uptoSmall }

/-- 'pendulumlaw04.MergeNames', WHERE WHAT IT READS IS OF BULK AT MOST 1048576: true; the input reads as it did. -/
def mergeNamesUptoRow : OpenClaim := { program := "ythnbpdcjooifbaa", sum := "fecb11a5f5f95b5f461d02d1ff48dd67ab991548cf92e6fa864bf7338e918e38", func := "pendulum/pendulumlaw04.MergeNames", spec := "mergeNames", unfollowed := true, recurses := true, apart := false, narrowed := true }
def MergeNamesUptoSaid : Prop := mergeNamesUptoRow.holds Try.pinned (OpenSpec.upto mergeNamesSpec)

/-- 'pendulumlaw04.MergeCalls', WHERE WHAT IT READS IS OF BULK AT MOST 1048576: true; the input reads as it did. -/
def mergeCallsUptoRow : OpenClaim := { program := "ythnbpdcjooifbaa", sum := "fecb11a5f5f95b5f461d02d1ff48dd67ab991548cf92e6fa864bf7338e918e38", func := "pendulum/pendulumlaw04.MergeCalls", spec := "mergeCalls", unfollowed := true, recurses := true, apart := false, narrowed := true }
def MergeCallsUptoSaid : Prop := mergeCallsUptoRow.holds Try.pinned (OpenSpec.upto mergeCallsSpec)

/-- 'pendulumlaw04.MergeParts', WHERE WHAT IT READS IS OF BULK AT MOST 1048576: true; the input reads as it did. -/
def mergePartsUptoRow : OpenClaim := { program := "ythnbpdcjooifbaa", sum := "fecb11a5f5f95b5f461d02d1ff48dd67ab991548cf92e6fa864bf7338e918e38", func := "pendulum/pendulumlaw04.MergeParts", spec := "mergeParts", unfollowed := true, recurses := true, apart := false, narrowed := true }
def MergePartsUptoSaid : Prop := mergePartsUptoRow.holds Try.pinned (OpenSpec.upto mergePartsSpec)

/-- 'pendulumlaw04.MergeBrackets', WHERE WHAT IT READS IS OF BULK AT MOST 1048576: true; the input reads as it did. -/
def mergeBracketsUptoRow : OpenClaim := { program := "ythnbpdcjooifbaa", sum := "fecb11a5f5f95b5f461d02d1ff48dd67ab991548cf92e6fa864bf7338e918e38", func := "pendulum/pendulumlaw04.MergeBrackets", spec := "mergeBrackets", unfollowed := true, recurses := true, apart := false, narrowed := true }
def MergeBracketsUptoSaid : Prop := mergeBracketsUptoRow.holds Try.pinned (OpenSpec.upto mergeBracketsSpec)

/-- 'pendulumlaw04.MergeCuts', WHERE WHAT IT READS IS OF BULK AT MOST 1048576: true; the input reads as it did. -/
def mergeCutsUptoRow : OpenClaim := { program := "ythnbpdcjooifbaa", sum := "fecb11a5f5f95b5f461d02d1ff48dd67ab991548cf92e6fa864bf7338e918e38", func := "pendulum/pendulumlaw04.MergeCuts", spec := "mergeCuts", unfollowed := true, recurses := true, apart := false, narrowed := true }
def MergeCutsUptoSaid : Prop := mergeCutsUptoRow.holds Try.pinned (OpenSpec.upto mergeCutsSpec)

/-- 'pendulumlaw04.MergeCounts', WHERE WHAT IT READS IS OF BULK AT MOST 1048576: true; the input reads as it did. -/
def mergeCountsUptoRow : OpenClaim := { program := "ythnbpdcjooifbaa", sum := "fecb11a5f5f95b5f461d02d1ff48dd67ab991548cf92e6fa864bf7338e918e38", func := "pendulum/pendulumlaw04.MergeCounts", spec := "mergeCounts", unfollowed := true, recurses := true, apart := false, narrowed := true }
def MergeCountsUptoSaid : Prop := mergeCountsUptoRow.holds Try.pinned (OpenSpec.upto mergeCountsSpec)

end Rows
end Go.Proofs.Ythnbpdcjooifbaa
