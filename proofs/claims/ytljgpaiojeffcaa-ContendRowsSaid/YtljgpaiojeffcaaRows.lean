/-
  No cell of these rows narrows 'for every input' (looked for: loops, veiled, ifaces, maps, wideKeys, modest, calm, conditions, laid).
  DERIVED. THE GIVEN ROWS OF THIS SEAT. 4 by the template 'for every input the law returns true; each argument reads behind the call as it read before'; 0 by the template 'total and deterministic' (their statements: YtljgpaiojeffcaaTotals.lean).
  GIVEN WITH THE SEED: the statements are not yours to turn. If you find one false, say at which input.
  Laid BY PROGRAM, IN A SANDBOX (cutbox-rows.mjs): the forced cells as the released guide's own fill.sh prints them over the translation 1d25c23850cb5009… (all of the seat's roots in one cut). By AI agents, Wed Nov 11 2026. No macro, syntax, notation, axiom, sorry.
-/
import Derived.Test.YtljgpaiojeffcaaChecked
import GoSem.Claim
import GoSem.ClaimJoined
import GoSem.ClaimMapViews
import Derived.JoinedTies
import Derived.KernelRfl
namespace Go.Proofs.Ytljgpaiojeffcaa
/- THE CELL 'sum', in the pinned program and in every row, IS THE sha256 OF THE DUMP (.gsa) THAT YtljgpaiojeffcaaProg.lean LOADS. Nothing in Lean hashes anything: it is a label: what it is worth is what the hold of that sum in a sandbox is worth. -/
noncomputable def Try.pinned : Pinned := { name := "ytljgpaiojeffcaa", sum := "1d25c23850cb5009481173c5304217379449b1695a2f05e529cb56c3dd5f421f", checked := Try.checked }
namespace Rows
def none {H : Type} : Left H := { results := [], args := [] }

/-- 'pendulumlaw16.ContendNames': WHATEVER THE INPUT: true; the input reads as it did. -/
def contendNamesSpec : ChangeSpec := { name := "contendNames", fn := fun _ => fun
  | [] => { results := [.lit (.bool true)], args := [] }
  | _ => none }
def contendNamesRow : OpenClaim := { program := "ytljgpaiojeffcaa", sum := "1d25c23850cb5009481173c5304217379449b1695a2f05e529cb56c3dd5f421f", func := "pendulum/pendulumlaw16.ContendNames", spec := "contendNames", unfollowed := true, recurses := true, apart := false }
def ContendNamesSaid : Prop := contendNamesRow.holds Try.pinned (OpenSpec.ofChange contendNamesSpec)

/-- ITS FALSE NEIGHBOUR: 'it returns false'. Refute it at one input. -/
def contendNamesWrong : ChangeSpec := { name := "contendNames", fn := fun _ => fun
  | [] => { results := [.lit (.bool false)], args := [] }
  | _ => none }
def ContendNamesWrongFalsely : Prop := contendNamesRow.holds Try.pinned (OpenSpec.ofChange contendNamesWrong)

/-- 'pendulumlaw16.ContendRows': WHATEVER THE INPUT: true; the input reads as it did. -/
def contendRowsSpec : ChangeSpec := { name := "contendRows", fn := fun _ => fun
  | [d1, d2, d3, d4, d5] => { results := [.lit (.bool true)], args := [d1, d2, d3, d4, d5] }
  | _ => none }
def contendRowsRow : OpenClaim := { program := "ytljgpaiojeffcaa", sum := "1d25c23850cb5009481173c5304217379449b1695a2f05e529cb56c3dd5f421f", func := "pendulum/pendulumlaw16.ContendRows", spec := "contendRows", unfollowed := true, recurses := true, apart := false }
def ContendRowsSaid : Prop := contendRowsRow.holds Try.pinned (OpenSpec.ofChange contendRowsSpec)

/-- ITS FALSE NEIGHBOUR: 'it returns false'. Refute it at one input. -/
def contendRowsWrong : ChangeSpec := { name := "contendRows", fn := fun _ => fun
  | [d1, d2, d3, d4, d5] => { results := [.lit (.bool false)], args := [d1, d2, d3, d4, d5] }
  | _ => none }
def ContendRowsWrongFalsely : Prop := contendRowsRow.holds Try.pinned (OpenSpec.ofChange contendRowsWrong)

/-- 'pendulumlaw16.ContendWaits': WHATEVER THE INPUT: true; the input reads as it did. -/
def contendWaitsSpec : ChangeSpec := { name := "contendWaits", fn := fun _ => fun
  | [d1, d2, d3, d4] => { results := [.lit (.bool true)], args := [d1, d2, d3, d4] }
  | _ => none }
def contendWaitsRow : OpenClaim := { program := "ytljgpaiojeffcaa", sum := "1d25c23850cb5009481173c5304217379449b1695a2f05e529cb56c3dd5f421f", func := "pendulum/pendulumlaw16.ContendWaits", spec := "contendWaits", unfollowed := true, recurses := true, apart := false }
def ContendWaitsSaid : Prop := contendWaitsRow.holds Try.pinned (OpenSpec.ofChange contendWaitsSpec)

/-- ITS FALSE NEIGHBOUR: 'it returns false'. Refute it at one input. -/
def contendWaitsWrong : ChangeSpec := { name := "contendWaits", fn := fun _ => fun
  | [d1, d2, d3, d4] => { results := [.lit (.bool false)], args := [d1, d2, d3, d4] }
  | _ => none }
def ContendWaitsWrongFalsely : Prop := contendWaitsRow.holds Try.pinned (OpenSpec.ofChange contendWaitsWrong)

/-- 'pendulumlaw16.ContendPorts': WHATEVER THE INPUT: true; the input reads as it did. -/
def contendPortsSpec : ChangeSpec := { name := "contendPorts", fn := fun _ => fun
  | [d1, d2, d3, d4] => { results := [.lit (.bool true)], args := [d1, d2, d3, d4] }
  | _ => none }
def contendPortsRow : OpenClaim := { program := "ytljgpaiojeffcaa", sum := "1d25c23850cb5009481173c5304217379449b1695a2f05e529cb56c3dd5f421f", func := "pendulum/pendulumlaw16.ContendPorts", spec := "contendPorts", unfollowed := true, recurses := true, apart := false }
def ContendPortsSaid : Prop := contendPortsRow.holds Try.pinned (OpenSpec.ofChange contendPortsSpec)

/-- ITS FALSE NEIGHBOUR: 'it returns false'. Refute it at one input. -/
def contendPortsWrong : ChangeSpec := { name := "contendPorts", fn := fun _ => fun
  | [d1, d2, d3, d4] => { results := [.lit (.bool false)], args := [d1, d2, d3, d4] }
  | _ => none }
def ContendPortsWrongFalsely : Prop := contendPortsRow.holds Try.pinned (OpenSpec.ofChange contendPortsWrong)

/- THE SECOND FORM. 'bulk': how many values and letters a reading holds, each counted each time it is reached (what is shared counts as often as it is met; a slice's spare places count too). A statement '..UptoSaid' is the law's where the arguments, and the package variables that the reading takes, are together of bulk at most 1048576: NARROWER than '..Said'. Prove '..Said' where nothing that the law and all that it calls make is longer than what came in: it says more and counts as full. Else prove '..UptoSaid'. A law counts once. -/
mutual
def uptoBulk {H : Type} : DataW H → Nat
  | .lit (.string bytes) => bytes.length + 1
  | .lit _ => 1
  | .nil => 1
  | .ptr d => uptoBulk d + 1
  | .slice elems spare => uptoBulkAll elems + uptoBulkAll spare + 1
  | .agg parts => uptoBulkAll parts + 1
  | .iface _ d => uptoBulk d + 1
  | .map entries => uptoBulkEntries entries + 1
  | .held _ => 1
def uptoBulkAll {H : Type} : List (DataW H) → Nat
  | [] => 0
  | d :: r => uptoBulk d + uptoBulkAll r
def uptoBulkEntries {H : Type} : List (Lit × DataW H) → Nat
  | [] => 0
  | x :: r => uptoBulkEntry x + uptoBulkEntries r
def uptoBulkEntry {H : Type} : Lit × DataW H → Nat
  | (.string bytes, d) => bytes.length + uptoBulk d + 1
  | (_, d) => uptoBulk d + 1
 end
def uptoSmall : (H : Type) → List (DataW H) → Bool := fun _ ds => decide (uptoBulkAll ds ≤ 1048576)
def OpenSpec.upto (s : _root_.Go.ChangeSpec) : _root_.Go.OpenSpec := { _root_.Go.OpenSpec.ofChange s with cond := some uptoSmall }

/-- 'pendulumlaw16.ContendNames', WHERE WHAT IT READS IS OF BULK AT MOST 1048576: true; the input reads as it did. -/
def contendNamesUptoRow : OpenClaim := { program := "ytljgpaiojeffcaa", sum := "1d25c23850cb5009481173c5304217379449b1695a2f05e529cb56c3dd5f421f", func := "pendulum/pendulumlaw16.ContendNames", spec := "contendNames", unfollowed := true, recurses := true, apart := false, narrowed := true }
def ContendNamesUptoSaid : Prop := contendNamesUptoRow.holds Try.pinned (OpenSpec.upto contendNamesSpec)

/-- 'pendulumlaw16.ContendRows', WHERE WHAT IT READS IS OF BULK AT MOST 1048576: true; the input reads as it did. -/
def contendRowsUptoRow : OpenClaim := { program := "ytljgpaiojeffcaa", sum := "1d25c23850cb5009481173c5304217379449b1695a2f05e529cb56c3dd5f421f", func := "pendulum/pendulumlaw16.ContendRows", spec := "contendRows", unfollowed := true, recurses := true, apart := false, narrowed := true }
def ContendRowsUptoSaid : Prop := contendRowsUptoRow.holds Try.pinned (OpenSpec.upto contendRowsSpec)

/-- 'pendulumlaw16.ContendWaits', WHERE WHAT IT READS IS OF BULK AT MOST 1048576: true; the input reads as it did. -/
def contendWaitsUptoRow : OpenClaim := { program := "ytljgpaiojeffcaa", sum := "1d25c23850cb5009481173c5304217379449b1695a2f05e529cb56c3dd5f421f", func := "pendulum/pendulumlaw16.ContendWaits", spec := "contendWaits", unfollowed := true, recurses := true, apart := false, narrowed := true }
def ContendWaitsUptoSaid : Prop := contendWaitsUptoRow.holds Try.pinned (OpenSpec.upto contendWaitsSpec)

/-- 'pendulumlaw16.ContendPorts', WHERE WHAT IT READS IS OF BULK AT MOST 1048576: true; the input reads as it did. -/
def contendPortsUptoRow : OpenClaim := { program := "ytljgpaiojeffcaa", sum := "1d25c23850cb5009481173c5304217379449b1695a2f05e529cb56c3dd5f421f", func := "pendulum/pendulumlaw16.ContendPorts", spec := "contendPorts", unfollowed := true, recurses := true, apart := false, narrowed := true }
def ContendPortsUptoSaid : Prop := contendPortsUptoRow.holds Try.pinned (OpenSpec.upto contendPortsSpec)

end Rows
end Go.Proofs.Ytljgpaiojeffcaa
