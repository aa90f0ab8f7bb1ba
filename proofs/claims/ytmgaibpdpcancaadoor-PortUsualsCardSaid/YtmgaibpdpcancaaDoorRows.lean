/-
  NARROWER THAN 'FOR EVERY INPUT', by the rows' own cells (each row's printed sentence says how): PortNames: laid · PortCalls: laid · PortLists: laid · PortUsuals: laid.
  DERIVED. THE GIVEN ROWS OF THIS SEAT. 4 by the template 'for every input the law returns true; each argument reads behind the call as it read before'; 0 by the template 'total and deterministic' (their statements: YtmgaibpdpcancaaDoorTotals.lean).
  GIVEN WITH THE SEED: the statements are not yours to turn. If you find one false, say at which input.
  Laid BY PROGRAM, IN A SANDBOX (cutbox-rows.mjs): the forced cells as the released guide's own fill.sh prints them over the translation 2e9a45f99afcf8ac… (all of the seat's roots in one cut). By AI agents, Wed Nov 11 2026. No macro, syntax, notation, axiom, sorry.
-/
import Derived.Test.YtmgaibpdpcancaaDoorChecked
import GoSem.Claim
import GoSem.ClaimJoined
import GoSem.ClaimMapViews
import Derived.JoinedTies
import Derived.KernelRfl
namespace Go.Proofs.YtmgaibpdpcancaaDoor
/- THE CELL 'sum', in the pinned program and in every row, IS THE sha256 OF THE DUMP (.gsa) THAT YtmgaibpdpcancaaDoorProg.lean LOADS. Nothing in Lean hashes anything: it is a label: what it is worth is what the hold of that sum in a sandbox is worth. -/
noncomputable def Tryd.pinned : Pinned := { name := "ytmgaibpdpcancaadoor", sum := "2e9a45f99afcf8ac2ce38fe73ad8623c98a38244ae5c3bde64422f79475af53a", checked := Tryd.checked }
namespace Rows
def none {H : Type} : Left H := { results := [], args := [] }

/- WHAT THE LISTED PACKAGE-LEVEL VARIABLES READ AS WHEN THE CALL BEGINS. Each datum BY PROGRAM (the guide's laid-datum.mjs) off the statement by which the dump's own 'gosem.cut.vars' lays the variable. In a bare row this is a premise. The card (YtmgaibpdpcancaaDoorCards.lean) ties it to the program's text. -/
def laid_pendulum_port_names {H : Type} : DataW H := .agg [.lit (.string []), .lit (.string [117, 108, 97]), .lit (.string [112, 97, 103, 101]), .lit (.string [109, 111, 114, 101]), .lit (.string [115, 101, 108, 101, 99, 116]), .lit (.string [100, 97, 116, 97]), .lit (.string [109, 97, 105, 110]), .lit (.string [102, 100, 99]), .lit (.string [110, 111, 110, 101])]
def laid_pendulum_port_usual {H : Type} : DataW H := .agg [.lit (.int .u16 0), .lit (.int .u16 254), .lit (.int .u16 32765), .lit (.int .u16 8189), .lit (.int .u16 65533), .lit (.int .u16 49149), .lit (.int .u16 12285), .lit (.int .u16 16381), .lit (.int .u16 255)]
def laid_pendulum_port_rules {H : Type} : DataW H := .agg [.agg [.lit (.int .i64 1), .lit (.int .u16 1), .lit (.int .u16 0), .lit (.bool true), .lit (.bool true)], .agg [.lit (.int .i64 2), .lit (.int .u16 49154), .lit (.int .u16 16384), .lit (.bool true), .lit (.bool false)], .agg [.lit (.int .i64 3), .lit (.int .u16 61442), .lit (.int .u16 4096), .lit (.bool true), .lit (.bool false)], .agg [.lit (.int .i64 4), .lit (.int .u16 49154), .lit (.int .u16 49152), .lit (.bool true), .lit (.bool true)], .agg [.lit (.int .i64 5), .lit (.int .u16 49154), .lit (.int .u16 32768), .lit (.bool true), .lit (.bool false)], .agg [.lit (.int .i64 6), .lit (.int .u16 61442), .lit (.int .u16 8192), .lit (.bool false), .lit (.bool true)], .agg [.lit (.int .i64 7), .lit (.int .u16 61442), .lit (.int .u16 12288), .lit (.bool true), .lit (.bool true)]]

/-- 'pendulumlaw14.PortNames': WHATEVER THE INPUT: true; the input reads as it did. -/
def portNamesSpec : ChangeSpec := { name := "portNames", fn := fun _ => fun
  | [] => { results := [.lit (.bool true)], args := [] }
  | _ => none }
def portNamesRow : OpenClaim := { program := "ytmgaibpdpcancaadoor", sum := "2e9a45f99afcf8ac2ce38fe73ad8623c98a38244ae5c3bde64422f79475af53a", func := "pendulum/pendulumlaw14.PortNames", spec := "portNames", named := ["pendulum/port.rules", "pendulum/port.names", "pendulum/port.usual"], apart := false, laid := [("pendulum/port.names", laid_pendulum_port_names), ("pendulum/port.usual", laid_pendulum_port_usual), ("pendulum/port.rules", laid_pendulum_port_rules)] }
def PortNamesSaid : Prop := portNamesRow.holds Tryd.pinned (OpenSpec.ofChange portNamesSpec)

/-- ITS FALSE NEIGHBOUR: 'it returns false'. Refute it at one input. -/
def portNamesWrong : ChangeSpec := { name := "portNames", fn := fun _ => fun
  | [] => { results := [.lit (.bool false)], args := [] }
  | _ => none }
def PortNamesWrongFalsely : Prop := portNamesRow.holds Tryd.pinned (OpenSpec.ofChange portNamesWrong)

/-- 'pendulumlaw14.PortCalls': WHATEVER THE INPUT: true; the input reads as it did. -/
def portCallsSpec : ChangeSpec := { name := "portCalls", fn := fun _ => fun
  | [d1, d2] => { results := [.lit (.bool true)], args := [d1, d2] }
  | _ => none }
def portCallsRow : OpenClaim := { program := "ytmgaibpdpcancaadoor", sum := "2e9a45f99afcf8ac2ce38fe73ad8623c98a38244ae5c3bde64422f79475af53a", func := "pendulum/pendulumlaw14.PortCalls", spec := "portCalls", recurses := true, named := ["pendulum/port.rules", "pendulum/port.names", "pendulum/port.usual"], apart := false, laid := [("pendulum/port.names", laid_pendulum_port_names), ("pendulum/port.usual", laid_pendulum_port_usual), ("pendulum/port.rules", laid_pendulum_port_rules)] }
def PortCallsSaid : Prop := portCallsRow.holds Tryd.pinned (OpenSpec.ofChange portCallsSpec)

/-- ITS FALSE NEIGHBOUR: 'it returns false'. Refute it at one input. -/
def portCallsWrong : ChangeSpec := { name := "portCalls", fn := fun _ => fun
  | [d1, d2] => { results := [.lit (.bool false)], args := [d1, d2] }
  | _ => none }
def PortCallsWrongFalsely : Prop := portCallsRow.holds Tryd.pinned (OpenSpec.ofChange portCallsWrong)

/-- 'pendulumlaw14.PortLists': WHATEVER THE INPUT: true; the input reads as it did. -/
def portListsSpec : ChangeSpec := { name := "portLists", fn := fun _ => fun
  | [d] => { results := [.lit (.bool true)], args := [d] }
  | _ => none }
def portListsRow : OpenClaim := { program := "ytmgaibpdpcancaadoor", sum := "2e9a45f99afcf8ac2ce38fe73ad8623c98a38244ae5c3bde64422f79475af53a", func := "pendulum/pendulumlaw14.PortLists", spec := "portLists", named := ["pendulum/port.rules"], apart := false, laid := [("pendulum/port.rules", laid_pendulum_port_rules)] }
def PortListsSaid : Prop := portListsRow.holds Tryd.pinned (OpenSpec.ofChange portListsSpec)

/-- ITS FALSE NEIGHBOUR: 'it returns false'. Refute it at one input. -/
def portListsWrong : ChangeSpec := { name := "portLists", fn := fun _ => fun
  | [d] => { results := [.lit (.bool false)], args := [d] }
  | _ => none }
def PortListsWrongFalsely : Prop := portListsRow.holds Tryd.pinned (OpenSpec.ofChange portListsWrong)

/-- 'pendulumlaw14.PortUsuals': WHATEVER THE INPUT: true; the input reads as it did. -/
def portUsualsSpec : ChangeSpec := { name := "portUsuals", fn := fun _ => fun
  | [d1, d2, d3] => { results := [.lit (.bool true)], args := [d1, d2, d3] }
  | _ => none }
def portUsualsRow : OpenClaim := { program := "ytmgaibpdpcancaadoor", sum := "2e9a45f99afcf8ac2ce38fe73ad8623c98a38244ae5c3bde64422f79475af53a", func := "pendulum/pendulumlaw14.PortUsuals", spec := "portUsuals", named := ["pendulum/port.rules", "pendulum/port.usual", "pendulum/port.names"], apart := false, laid := [("pendulum/port.names", laid_pendulum_port_names), ("pendulum/port.usual", laid_pendulum_port_usual), ("pendulum/port.rules", laid_pendulum_port_rules)] }
def PortUsualsSaid : Prop := portUsualsRow.holds Tryd.pinned (OpenSpec.ofChange portUsualsSpec)

/-- ITS FALSE NEIGHBOUR: 'it returns false'. Refute it at one input. -/
def portUsualsWrong : ChangeSpec := { name := "portUsuals", fn := fun _ => fun
  | [d1, d2, d3] => { results := [.lit (.bool false)], args := [d1, d2, d3] }
  | _ => none }
def PortUsualsWrongFalsely : Prop := portUsualsRow.holds Tryd.pinned (OpenSpec.ofChange portUsualsWrong)

/- THE SECOND FORM. 'bulk': how many values and letters a reading holds, each counted each time it is reached (what is shared counts as often as it is met; a slice's spare places count too). A statement '..UptoSaid' is the law's where the arguments, and the package variables that the reading takes, are together of bulk at most 1048576: NARROWER than '..Said'. Prove '..Said' where nothing that the law and all that it calls make is longer than what came in: it says more and counts as full. Else prove '..UptoSaid'. A law counts once. -/
mutual
def uptoBulk {H : Type} : DataW H → Nat
  | .lit (.string bytes) => bytes.length + 1
  | .lit _ => 1
  | .nil => 1
  | .ptr d => uptoBulk d + 1
  | .slice elems spare => uptoBulkAll elems + uptoBulkAll spare + 1
  | .agg parts => uptoBulkAll parts + 1
  | .iface _ d => uptoBulk d + 1
  | .map entries => uptoBulkEntries entries + 1
  | .held _ => 1
def uptoBulkAll {H : Type} : List (DataW H) → Nat
  | [] => 0
  | d :: r => uptoBulk d + uptoBulkAll r
def uptoBulkEntries {H : Type} : List (Lit × DataW H) → Nat
  | [] => 0
  | x :: r => uptoBulkEntry x + uptoBulkEntries r
def uptoBulkEntry {H : Type} : Lit × DataW H → Nat
  | (.string bytes, d) => bytes.length + uptoBulk d + 1
  | (_, d) => uptoBulk d + 1
 end
def uptoSmall : (H : Type) → List (DataW H) → Bool := fun _ ds => decide (uptoBulkAll ds ≤ 1048576)
def OpenSpec.upto (s : _root_.Go.ChangeSpec) : _root_.Go.OpenSpec := { _root_.Go.OpenSpec.ofChange s with cond := some uptoSmall }

/-- 'pendulumlaw14.PortNames', WHERE WHAT IT READS IS OF BULK AT MOST 1048576: true; the input reads as it did. -/
def portNamesUptoRow : OpenClaim := { program := "ytmgaibpdpcancaadoor", sum := "2e9a45f99afcf8ac2ce38fe73ad8623c98a38244ae5c3bde64422f79475af53a", func := "pendulum/pendulumlaw14.PortNames", spec := "portNames", named := ["pendulum/port.rules", "pendulum/port.names", "pendulum/port.usual"], apart := false, laid := [("pendulum/port.names", laid_pendulum_port_names), ("pendulum/port.usual", laid_pendulum_port_usual), ("pendulum/port.rules", laid_pendulum_port_rules)], narrowed := true }
def PortNamesUptoSaid : Prop := portNamesUptoRow.holds Tryd.pinned (OpenSpec.upto portNamesSpec)

/-- 'pendulumlaw14.PortCalls', WHERE WHAT IT READS IS OF BULK AT MOST 1048576: true; the input reads as it did. -/
def portCallsUptoRow : OpenClaim := { program := "ytmgaibpdpcancaadoor", sum := "2e9a45f99afcf8ac2ce38fe73ad8623c98a38244ae5c3bde64422f79475af53a", func := "pendulum/pendulumlaw14.PortCalls", spec := "portCalls", recurses := true, named := ["pendulum/port.rules", "pendulum/port.names", "pendulum/port.usual"], apart := false, laid := [("pendulum/port.names", laid_pendulum_port_names), ("pendulum/port.usual", laid_pendulum_port_usual), ("pendulum/port.rules", laid_pendulum_port_rules)], narrowed := true }
def PortCallsUptoSaid : Prop := portCallsUptoRow.holds Tryd.pinned (OpenSpec.upto portCallsSpec)

/-- 'pendulumlaw14.PortLists', WHERE WHAT IT READS IS OF BULK AT MOST 1048576: true; the input reads as it did. -/
def portListsUptoRow : OpenClaim := { program := "ytmgaibpdpcancaadoor", sum := "2e9a45f99afcf8ac2ce38fe73ad8623c98a38244ae5c3bde64422f79475af53a", func := "pendulum/pendulumlaw14.PortLists", spec := "portLists", named := ["pendulum/port.rules"], apart := false, laid := [("pendulum/port.rules", laid_pendulum_port_rules)], narrowed := true }
def PortListsUptoSaid : Prop := portListsUptoRow.holds Tryd.pinned (OpenSpec.upto portListsSpec)

/-- 'pendulumlaw14.PortUsuals', WHERE WHAT IT READS IS OF BULK AT MOST 1048576: true; the input reads as it did. -/
def portUsualsUptoRow : OpenClaim := { program := "ytmgaibpdpcancaadoor", sum := "2e9a45f99afcf8ac2ce38fe73ad8623c98a38244ae5c3bde64422f79475af53a", func := "pendulum/pendulumlaw14.PortUsuals", spec := "portUsuals", named := ["pendulum/port.rules", "pendulum/port.usual", "pendulum/port.names"], apart := false, laid := [("pendulum/port.names", laid_pendulum_port_names), ("pendulum/port.usual", laid_pendulum_port_usual), ("pendulum/port.rules", laid_pendulum_port_rules)], narrowed := true }
def PortUsualsUptoSaid : Prop := portUsualsUptoRow.holds Tryd.pinned (OpenSpec.upto portUsualsSpec)

end Rows
end Go.Proofs.YtmgaibpdpcancaaDoor
