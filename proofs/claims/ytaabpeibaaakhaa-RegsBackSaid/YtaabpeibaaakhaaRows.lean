/-
  No cell of these rows narrows 'for every input' (looked for: loops, veiled, ifaces, maps, wideKeys, modest, calm, conditions, laid).
  DERIVED. THE GIVEN ROWS OF THIS SEAT. 5 by the template 'for every input the law returns true; each argument reads behind the call as it read before'; 0 by the template 'total and deterministic' (their statements: YtaabpeibaaakhaaTotals.lean).
  GIVEN WITH THE SEED: the statements are not yours to turn. If you find one false, say at which input.
  Laid BY PROGRAM, IN A SANDBOX (cutbox-rows.mjs): the forced cells as the released guide's own fill.sh prints them over the translation f46915d4065c1e43… (all of the seat's roots in one cut). By AI agents, Wed Nov 11 2026. No macro, syntax, notation, axiom, sorry.
-/
import Derived.Test.YtaabpeibaaakhaaChecked
import GoSem.Claim
import GoSem.ClaimJoined
import GoSem.ClaimMapViews
import Derived.JoinedTies
import Derived.KernelRfl
namespace Go.Proofs.Ytaabpeibaaakhaa
/- THE CELL 'sum', in the pinned program and in every row, IS THE sha256 OF THE DUMP (.gsa) THAT YtaabpeibaaakhaaProg.lean LOADS. Nothing in Lean hashes anything: it is a label: what it is worth is what the hold of that sum in a sandbox is worth. -/
noncomputable def Try.pinned : Pinned := { name := "ytaabpeibaaakhaa", sum := "f46915d4065c1e43d0062a36cee532abe2d571bd91bda827ed4eb68d21346e1c", checked := Try.checked }
namespace Rows
def none {H : Type} : Left H := { results := [], args := [] }

/-- 'pendulumlaw08.RegsNames': WHATEVER THE INPUT: true; the input reads as it did. -/
def regsNamesSpec : ChangeSpec := { name := "regsNames", fn := fun _ => fun
  | [] => { results := [.lit (.bool true)], args := [] }
  | _ => none }
def regsNamesRow : OpenClaim := { program := "ytaabpeibaaakhaa", sum := "f46915d4065c1e43d0062a36cee532abe2d571bd91bda827ed4eb68d21346e1c", func := "pendulum/pendulumlaw08.RegsNames", spec := "regsNames", unfollowed := true, recurses := true, apart := false }
def RegsNamesSaid : Prop := regsNamesRow.holds Try.pinned (OpenSpec.ofChange regsNamesSpec)

/-- ITS FALSE NEIGHBOUR: 'it returns false'. Refute it at one input. -/
def regsNamesWrong : ChangeSpec := { name := "regsNames", fn := fun _ => fun
  | [] => { results := [.lit (.bool false)], args := [] }
  | _ => none }
def RegsNamesWrongFalsely : Prop := regsNamesRow.holds Try.pinned (OpenSpec.ofChange regsNamesWrong)

/-- 'pendulumlaw08.RegsCalls': WHATEVER THE INPUT: true; the input reads as it did. -/
def regsCallsSpec : ChangeSpec := { name := "regsCalls", fn := fun _ => fun
  | [d1, d2, d3, d4, d5, d6] => { results := [.lit (.bool true)], args := [d1, d2, d3, d4, d5, d6] }
  | _ => none }
def regsCallsRow : OpenClaim := { program := "ytaabpeibaaakhaa", sum := "f46915d4065c1e43d0062a36cee532abe2d571bd91bda827ed4eb68d21346e1c", func := "pendulum/pendulumlaw08.RegsCalls", spec := "regsCalls", unfollowed := true, recurses := true, apart := false }
def RegsCallsSaid : Prop := regsCallsRow.holds Try.pinned (OpenSpec.ofChange regsCallsSpec)

/-- ITS FALSE NEIGHBOUR: 'it returns false'. Refute it at one input. -/
def regsCallsWrong : ChangeSpec := { name := "regsCalls", fn := fun _ => fun
  | [d1, d2, d3, d4, d5, d6] => { results := [.lit (.bool false)], args := [d1, d2, d3, d4, d5, d6] }
  | _ => none }
def RegsCallsWrongFalsely : Prop := regsCallsRow.holds Try.pinned (OpenSpec.ofChange regsCallsWrong)

/-- 'pendulumlaw08.RegsBack': WHATEVER THE INPUT: true; the input reads as it did. -/
def regsBackSpec : ChangeSpec := { name := "regsBack", fn := fun _ => fun
  | [d1, d2, d3, d4] => { results := [.lit (.bool true)], args := [d1, d2, d3, d4] }
  | _ => none }
def regsBackRow : OpenClaim := { program := "ytaabpeibaaakhaa", sum := "f46915d4065c1e43d0062a36cee532abe2d571bd91bda827ed4eb68d21346e1c", func := "pendulum/pendulumlaw08.RegsBack", spec := "regsBack", unfollowed := true, recurses := true, apart := false }
def RegsBackSaid : Prop := regsBackRow.holds Try.pinned (OpenSpec.ofChange regsBackSpec)

/-- ITS FALSE NEIGHBOUR: 'it returns false'. Refute it at one input. -/
def regsBackWrong : ChangeSpec := { name := "regsBack", fn := fun _ => fun
  | [d1, d2, d3, d4] => { results := [.lit (.bool false)], args := [d1, d2, d3, d4] }
  | _ => none }
def RegsBackWrongFalsely : Prop := regsBackRow.holds Try.pinned (OpenSpec.ofChange regsBackWrong)

/-- 'pendulumlaw08.RegsAlone': WHATEVER THE INPUT: true; the input reads as it did. -/
def regsAloneSpec : ChangeSpec := { name := "regsAlone", fn := fun _ => fun
  | [d1, d2, d3, d4, d5, d6] => { results := [.lit (.bool true)], args := [d1, d2, d3, d4, d5, d6] }
  | _ => none }
def regsAloneRow : OpenClaim := { program := "ytaabpeibaaakhaa", sum := "f46915d4065c1e43d0062a36cee532abe2d571bd91bda827ed4eb68d21346e1c", func := "pendulum/pendulumlaw08.RegsAlone", spec := "regsAlone", unfollowed := true, recurses := true, apart := false }
def RegsAloneSaid : Prop := regsAloneRow.holds Try.pinned (OpenSpec.ofChange regsAloneSpec)

/-- ITS FALSE NEIGHBOUR: 'it returns false'. Refute it at one input. -/
def regsAloneWrong : ChangeSpec := { name := "regsAlone", fn := fun _ => fun
  | [d1, d2, d3, d4, d5, d6] => { results := [.lit (.bool false)], args := [d1, d2, d3, d4, d5, d6] }
  | _ => none }
def RegsAloneWrongFalsely : Prop := regsAloneRow.holds Try.pinned (OpenSpec.ofChange regsAloneWrong)

/-- 'pendulumlaw08.RegsSwaps': WHATEVER THE INPUT: true; the input reads as it did. -/
def regsSwapsSpec : ChangeSpec := { name := "regsSwaps", fn := fun _ => fun
  | [d1, d2] => { results := [.lit (.bool true)], args := [d1, d2] }
  | _ => none }
def regsSwapsRow : OpenClaim := { program := "ytaabpeibaaakhaa", sum := "f46915d4065c1e43d0062a36cee532abe2d571bd91bda827ed4eb68d21346e1c", func := "pendulum/pendulumlaw08.RegsSwaps", spec := "regsSwaps", unfollowed := true, recurses := true, apart := false }
def RegsSwapsSaid : Prop := regsSwapsRow.holds Try.pinned (OpenSpec.ofChange regsSwapsSpec)

/-- ITS FALSE NEIGHBOUR: 'it returns false'. Refute it at one input. -/
def regsSwapsWrong : ChangeSpec := { name := "regsSwaps", fn := fun _ => fun
  | [d1, d2] => { results := [.lit (.bool false)], args := [d1, d2] }
  | _ => none }
def RegsSwapsWrongFalsely : Prop := regsSwapsRow.holds Try.pinned (OpenSpec.ofChange regsSwapsWrong)

/- THE SECOND FORM. 'bulk': how many values and letters a reading holds, each counted each time it is reached (what is shared counts as often as it is met; a slice's spare places count too). A statement '..UptoSaid' is the law's where the arguments, and the package variables that the reading takes, are together of bulk at most 1048576: NARROWER than '..Said'. Prove '..Said' where nothing that the law and all that it calls make is longer than what came in: it says more and counts as full. Else prove '..UptoSaid'. A law counts once. -/
mutual
def uptoBulk {H : Type} : DataW H → Nat
  | .lit (.string bytes) => bytes.length + 1
  | .lit _ => 1
  | .nil => 1
  | .ptr d => uptoBulk d + 1
  | .slice elems spare => uptoBulkAll elems + uptoBulkAll spare + 1
  | .agg parts => uptoBulkAll parts + 1
  | .iface _ d => uptoBulk d + 1
  | .map entries => uptoBulkEntries entries + 1
  | .held _ => 1
def uptoBulkAll {H : Type} : List (DataW H) → Nat
  | [] => 0
  | d :: r => uptoBulk d + uptoBulkAll r
def uptoBulkEntries {H : Type} : List (Lit × DataW H) → Nat
  | [] => 0
  | x :: r => uptoBulkEntry x + uptoBulkEntries r
def uptoBulkEntry {H : Type} : Lit × DataW H → Nat
  | (.string bytes, d) => bytes.length + uptoBulk d + 1
  | (_, d) => uptoBulk d + 1
 end
def uptoSmall : (H : Type) → List (DataW H) → Bool := fun _ ds => decide (uptoBulkAll ds ≤ 1048576)
def OpenSpec.upto (s : _root_.Go.ChangeSpec) : _root_.Go.OpenSpec := { _root_.Go.OpenSpec.ofChange s with cond := some uptoSmall }

/-- 'pendulumlaw08.RegsNames', WHERE WHAT IT READS IS OF BULK AT MOST 1048576: true; the input reads as it did. -/
def regsNamesUptoRow : OpenClaim := { program := "ytaabpeibaaakhaa", sum := "f46915d4065c1e43d0062a36cee532abe2d571bd91bda827ed4eb68d21346e1c", func := "pendulum/pendulumlaw08.RegsNames", spec := "regsNames", unfollowed := true, recurses := true, apart := false, narrowed := true }
def RegsNamesUptoSaid : Prop := regsNamesUptoRow.holds Try.pinned (OpenSpec.upto regsNamesSpec)

/-- 'pendulumlaw08.RegsCalls', WHERE WHAT IT READS IS OF BULK AT MOST 1048576: true; the input reads as it did. -/
def regsCallsUptoRow : OpenClaim := { program := "ytaabpeibaaakhaa", sum := "f46915d4065c1e43d0062a36cee532abe2d571bd91bda827ed4eb68d21346e1c", func := "pendulum/pendulumlaw08.RegsCalls", spec := "regsCalls", unfollowed := true, recurses := true, apart := false, narrowed := true }
def RegsCallsUptoSaid : Prop := regsCallsUptoRow.holds Try.pinned (OpenSpec.upto regsCallsSpec)

/-- 'pendulumlaw08.RegsBack', WHERE WHAT IT READS IS OF BULK AT MOST 1048576: true; the input reads as it did. -/
def regsBackUptoRow : OpenClaim := { program := "ytaabpeibaaakhaa", sum := "f46915d4065c1e43d0062a36cee532abe2d571bd91bda827ed4eb68d21346e1c", func := "pendulum/pendulumlaw08.RegsBack", spec := "regsBack", unfollowed := true, recurses := true, apart := false, narrowed := true }
def RegsBackUptoSaid : Prop := regsBackUptoRow.holds Try.pinned (OpenSpec.upto regsBackSpec)

/-- 'pendulumlaw08.RegsAlone', WHERE WHAT IT READS IS OF BULK AT MOST 1048576: true; the input reads as it did. -/
def regsAloneUptoRow : OpenClaim := { program := "ytaabpeibaaakhaa", sum := "f46915d4065c1e43d0062a36cee532abe2d571bd91bda827ed4eb68d21346e1c", func := "pendulum/pendulumlaw08.RegsAlone", spec := "regsAlone", unfollowed := true, recurses := true, apart := false, narrowed := true }
def RegsAloneUptoSaid : Prop := regsAloneUptoRow.holds Try.pinned (OpenSpec.upto regsAloneSpec)

/-- 'pendulumlaw08.RegsSwaps', WHERE WHAT IT READS IS OF BULK AT MOST 1048576: true; the input reads as it did. -/
def regsSwapsUptoRow : OpenClaim := { program := "ytaabpeibaaakhaa", sum := "f46915d4065c1e43d0062a36cee532abe2d571bd91bda827ed4eb68d21346e1c", func := "pendulum/pendulumlaw08.RegsSwaps", spec := "regsSwaps", unfollowed := true, recurses := true, apart := false, narrowed := true }
def RegsSwapsUptoSaid : Prop := regsSwapsUptoRow.holds Try.pinned (OpenSpec.upto regsSwapsSpec)

end Rows
end Go.Proofs.Ytaabpeibaaakhaa
