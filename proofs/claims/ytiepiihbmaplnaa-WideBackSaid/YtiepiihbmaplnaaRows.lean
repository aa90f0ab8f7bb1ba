/-
  No cell of these rows narrows 'for every input' (looked for: loops, veiled, ifaces, maps, wideKeys, modest, calm, conditions, laid).
  DERIVED. THE GIVEN ROWS OF THIS SEAT. 6 by the template 'for every input the law returns true; each argument reads behind the call as it read before'; 0 by the template 'total and deterministic' (their statements: YtiepiihbmaplnaaTotals.lean).
  GIVEN WITH THE SEED: the statements are not yours to turn. If you find one false, say at which input.
  Laid BY PROGRAM, IN A SANDBOX (cutbox-rows.mjs): the forced cells as the released guide's own fill.sh prints them over the translation dd59b147179fd32c… (all of the seat's roots in one cut). By AI agents, Wed Nov 11 2026. No macro, syntax, notation, axiom, sorry.
-/
import Derived.Test.YtiepiihbmaplnaaChecked
import GoSem.Claim
import GoSem.ClaimJoined
import GoSem.ClaimMapViews
import Derived.JoinedTies
import Derived.KernelRfl
namespace Go.Proofs.Ytiepiihbmaplnaa
/- THE CELL 'sum', in the pinned program and in every row, IS THE sha256 OF THE DUMP (.gsa) THAT YtiepiihbmaplnaaProg.lean LOADS. Nothing in Lean hashes anything: it is a label: what it is worth is what the hold of that sum in a sandbox is worth. -/
noncomputable def Try.pinned : Pinned := { name := "ytiepiihbmaplnaa", sum := "dd59b147179fd32cb7e45950519a10f0259f012a58f5cc443252d468e8f9f693", checked := Try.checked }
namespace Rows
def none {H : Type} : Left H := { results := [], args := [] }

/-- 'pendulumlaw07.WideNames': WHATEVER THE INPUT: true; the input reads as it did. -/
def wideNamesSpec : ChangeSpec := { name := "wideNames", fn := fun _ => fun
  | [] => { results := [.lit (.bool true)], args := [] }
  | _ => none }
def wideNamesRow : OpenClaim := { program := "ytiepiihbmaplnaa", sum := "dd59b147179fd32cb7e45950519a10f0259f012a58f5cc443252d468e8f9f693", func := "pendulum/pendulumlaw07.WideNames", spec := "wideNames", apart := false }
def WideNamesSaid : Prop := wideNamesRow.holds Try.pinned (OpenSpec.ofChange wideNamesSpec)

/-- ITS FALSE NEIGHBOUR: 'it returns false'. Refute it at one input. -/
def wideNamesWrong : ChangeSpec := { name := "wideNames", fn := fun _ => fun
  | [] => { results := [.lit (.bool false)], args := [] }
  | _ => none }
def WideNamesWrongFalsely : Prop := wideNamesRow.holds Try.pinned (OpenSpec.ofChange wideNamesWrong)

/-- 'pendulumlaw07.WideCalls': WHATEVER THE INPUT: true; the input reads as it did. -/
def wideCallsSpec : ChangeSpec := { name := "wideCalls", fn := fun _ => fun
  | [d1, d2, d3, d4] => { results := [.lit (.bool true)], args := [d1, d2, d3, d4] }
  | _ => none }
def wideCallsRow : OpenClaim := { program := "ytiepiihbmaplnaa", sum := "dd59b147179fd32cb7e45950519a10f0259f012a58f5cc443252d468e8f9f693", func := "pendulum/pendulumlaw07.WideCalls", spec := "wideCalls", apart := false }
def WideCallsSaid : Prop := wideCallsRow.holds Try.pinned (OpenSpec.ofChange wideCallsSpec)

/-- ITS FALSE NEIGHBOUR: 'it returns false'. Refute it at one input. -/
def wideCallsWrong : ChangeSpec := { name := "wideCalls", fn := fun _ => fun
  | [d1, d2, d3, d4] => { results := [.lit (.bool false)], args := [d1, d2, d3, d4] }
  | _ => none }
def WideCallsWrongFalsely : Prop := wideCallsRow.holds Try.pinned (OpenSpec.ofChange wideCallsWrong)

/-- 'pendulumlaw07.WideBlocks': WHATEVER THE INPUT: true; the input reads as it did. -/
def wideBlocksSpec : ChangeSpec := { name := "wideBlocks", fn := fun _ => fun
  | [d1, d2, d3, d4, d5] => { results := [.lit (.bool true)], args := [d1, d2, d3, d4, d5] }
  | _ => none }
def wideBlocksRow : OpenClaim := { program := "ytiepiihbmaplnaa", sum := "dd59b147179fd32cb7e45950519a10f0259f012a58f5cc443252d468e8f9f693", func := "pendulum/pendulumlaw07.WideBlocks", spec := "wideBlocks", apart := false }
def WideBlocksSaid : Prop := wideBlocksRow.holds Try.pinned (OpenSpec.ofChange wideBlocksSpec)

/-- ITS FALSE NEIGHBOUR: 'it returns false'. Refute it at one input. -/
def wideBlocksWrong : ChangeSpec := { name := "wideBlocks", fn := fun _ => fun
  | [d1, d2, d3, d4, d5] => { results := [.lit (.bool false)], args := [d1, d2, d3, d4, d5] }
  | _ => none }
def WideBlocksWrongFalsely : Prop := wideBlocksRow.holds Try.pinned (OpenSpec.ofChange wideBlocksWrong)

/-- 'pendulumlaw07.WideBytes': WHATEVER THE INPUT: true; the input reads as it did. -/
def wideBytesSpec : ChangeSpec := { name := "wideBytes", fn := fun _ => fun
  | [d1, d2, d3] => { results := [.lit (.bool true)], args := [d1, d2, d3] }
  | _ => none }
def wideBytesRow : OpenClaim := { program := "ytiepiihbmaplnaa", sum := "dd59b147179fd32cb7e45950519a10f0259f012a58f5cc443252d468e8f9f693", func := "pendulum/pendulumlaw07.WideBytes", spec := "wideBytes", apart := false }
def WideBytesSaid : Prop := wideBytesRow.holds Try.pinned (OpenSpec.ofChange wideBytesSpec)

/-- ITS FALSE NEIGHBOUR: 'it returns false'. Refute it at one input. -/
def wideBytesWrong : ChangeSpec := { name := "wideBytes", fn := fun _ => fun
  | [d1, d2, d3] => { results := [.lit (.bool false)], args := [d1, d2, d3] }
  | _ => none }
def WideBytesWrongFalsely : Prop := wideBytesRow.holds Try.pinned (OpenSpec.ofChange wideBytesWrong)

/-- 'pendulumlaw07.WideBack': WHATEVER THE INPUT: true; the input reads as it did. -/
def wideBackSpec : ChangeSpec := { name := "wideBack", fn := fun _ => fun
  | [d1, d2, d3, d4] => { results := [.lit (.bool true)], args := [d1, d2, d3, d4] }
  | _ => none }
def wideBackRow : OpenClaim := { program := "ytiepiihbmaplnaa", sum := "dd59b147179fd32cb7e45950519a10f0259f012a58f5cc443252d468e8f9f693", func := "pendulum/pendulumlaw07.WideBack", spec := "wideBack", apart := false }
def WideBackSaid : Prop := wideBackRow.holds Try.pinned (OpenSpec.ofChange wideBackSpec)

/-- ITS FALSE NEIGHBOUR: 'it returns false'. Refute it at one input. -/
def wideBackWrong : ChangeSpec := { name := "wideBack", fn := fun _ => fun
  | [d1, d2, d3, d4] => { results := [.lit (.bool false)], args := [d1, d2, d3, d4] }
  | _ => none }
def WideBackWrongFalsely : Prop := wideBackRow.holds Try.pinned (OpenSpec.ofChange wideBackWrong)

/-- 'pendulumlaw07.WideLeft': WHATEVER THE INPUT: true; the input reads as it did. -/
def wideLeftSpec : ChangeSpec := { name := "wideLeft", fn := fun _ => fun
  | [d1, d2, d3, d4] => { results := [.lit (.bool true)], args := [d1, d2, d3, d4] }
  | _ => none }
def wideLeftRow : OpenClaim := { program := "ytiepiihbmaplnaa", sum := "dd59b147179fd32cb7e45950519a10f0259f012a58f5cc443252d468e8f9f693", func := "pendulum/pendulumlaw07.WideLeft", spec := "wideLeft", apart := false }
def WideLeftSaid : Prop := wideLeftRow.holds Try.pinned (OpenSpec.ofChange wideLeftSpec)

/-- ITS FALSE NEIGHBOUR: 'it returns false'. Refute it at one input. -/
def wideLeftWrong : ChangeSpec := { name := "wideLeft", fn := fun _ => fun
  | [d1, d2, d3, d4] => { results := [.lit (.bool false)], args := [d1, d2, d3, d4] }
  | _ => none }
def WideLeftWrongFalsely : Prop := wideLeftRow.holds Try.pinned (OpenSpec.ofChange wideLeftWrong)

/- THE SECOND FORM. 'bulk': how many values and letters a reading holds, each counted each time it is reached (what is shared counts as often as it is met; a slice's spare places count too). A statement '..UptoSaid' is the law's where the arguments, and the package variables that the reading takes, are together of bulk at most 1048576: NARROWER than '..Said'. Prove '..Said' where nothing that the law and all that it calls make is longer than what came in: it says more and counts as full. Else prove '..UptoSaid'. A law counts once. -/
mutual
def uptoBulk {H : Type} : DataW H → Nat
  | .lit (.string bytes) => bytes.length + 1
  | .lit _ => 1
  | .nil => 1
  | .ptr d => uptoBulk d + 1
  | .slice elems spare => uptoBulkAll elems + uptoBulkAll spare + 1
  | .agg parts => uptoBulkAll parts + 1
  | .iface _ d => uptoBulk d + 1
  | .map entries => uptoBulkEntries entries + 1
  | .held _ => 1
def uptoBulkAll {H : Type} : List (DataW H) → Nat
  | [] => 0
  | d :: r => uptoBulk d + uptoBulkAll r
def uptoBulkEntries {H : Type} : List (Lit × DataW H) → Nat
  | [] => 0
  | x :: r => uptoBulkEntry x + uptoBulkEntries r
def uptoBulkEntry {H : Type} : Lit × DataW H → Nat
  | (.string bytes, d) => bytes.length + uptoBulk d + 1
  | (_, d) => uptoBulk d + 1
 end
def uptoSmall : (H : Type) → List (DataW H) → Bool := fun _ ds => decide (uptoBulkAll ds ≤ 1048576)
def OpenSpec.upto (s : _root_.Go.ChangeSpec) : _root_.Go.OpenSpec := { _root_.Go.OpenSpec.ofChange s with cond := some uptoSmall }

/-- 'pendulumlaw07.WideNames', WHERE WHAT IT READS IS OF BULK AT MOST 1048576: true; the input reads as it did. -/
def wideNamesUptoRow : OpenClaim := { program := "ytiepiihbmaplnaa", sum := "dd59b147179fd32cb7e45950519a10f0259f012a58f5cc443252d468e8f9f693", func := "pendulum/pendulumlaw07.WideNames", spec := "wideNames", apart := false, narrowed := true }
def WideNamesUptoSaid : Prop := wideNamesUptoRow.holds Try.pinned (OpenSpec.upto wideNamesSpec)

/-- 'pendulumlaw07.WideCalls', WHERE WHAT IT READS IS OF BULK AT MOST 1048576: true; the input reads as it did. -/
def wideCallsUptoRow : OpenClaim := { program := "ytiepiihbmaplnaa", sum := "dd59b147179fd32cb7e45950519a10f0259f012a58f5cc443252d468e8f9f693", func := "pendulum/pendulumlaw07.WideCalls", spec := "wideCalls", apart := false, narrowed := true }
def WideCallsUptoSaid : Prop := wideCallsUptoRow.holds Try.pinned (OpenSpec.upto wideCallsSpec)

/-- 'pendulumlaw07.WideBlocks', WHERE WHAT IT READS IS OF BULK AT MOST 1048576: true; the input reads as it did. -/
def wideBlocksUptoRow : OpenClaim := { program := "ytiepiihbmaplnaa", sum := "dd59b147179fd32cb7e45950519a10f0259f012a58f5cc443252d468e8f9f693", func := "pendulum/pendulumlaw07.WideBlocks", spec := "wideBlocks", apart := false, narrowed := true }
def WideBlocksUptoSaid : Prop := wideBlocksUptoRow.holds Try.pinned (OpenSpec.upto wideBlocksSpec)

/-- 'pendulumlaw07.WideBytes', WHERE WHAT IT READS IS OF BULK AT MOST 1048576: true; the input reads as it did. -/
def wideBytesUptoRow : OpenClaim := { program := "ytiepiihbmaplnaa", sum := "dd59b147179fd32cb7e45950519a10f0259f012a58f5cc443252d468e8f9f693", func := "pendulum/pendulumlaw07.WideBytes", spec := "wideBytes", apart := false, narrowed := true }
def WideBytesUptoSaid : Prop := wideBytesUptoRow.holds Try.pinned (OpenSpec.upto wideBytesSpec)

/-- 'pendulumlaw07.WideBack', WHERE WHAT IT READS IS OF BULK AT MOST 1048576: true; the input reads as it did. -/
def wideBackUptoRow : OpenClaim := { program := "ytiepiihbmaplnaa", sum := "dd59b147179fd32cb7e45950519a10f0259f012a58f5cc443252d468e8f9f693", func := "pendulum/pendulumlaw07.WideBack", spec := "wideBack", apart := false, narrowed := true }
def WideBackUptoSaid : Prop := wideBackUptoRow.holds Try.pinned (OpenSpec.upto wideBackSpec)

/-- 'pendulumlaw07.WideLeft', WHERE WHAT IT READS IS OF BULK AT MOST 1048576: true; the input reads as it did. -/
def wideLeftUptoRow : OpenClaim := { program := "ytiepiihbmaplnaa", sum := "dd59b147179fd32cb7e45950519a10f0259f012a58f5cc443252d468e8f9f693", func := "pendulum/pendulumlaw07.WideLeft", spec := "wideLeft", apart := false, narrowed := true }
def WideLeftUptoSaid : Prop := wideLeftUptoRow.holds Try.pinned (OpenSpec.upto wideLeftSpec)

end Rows
end Go.Proofs.Ytiepiihbmaplnaa
