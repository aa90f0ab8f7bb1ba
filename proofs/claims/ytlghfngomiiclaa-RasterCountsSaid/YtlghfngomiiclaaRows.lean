/-
  No cell of these rows narrows 'for every input' (looked for: loops, veiled, ifaces, maps, wideKeys, modest, calm, conditions, laid).
  DERIVED. THE GIVEN ROWS OF THIS SEAT. 5 by the template 'for every input the law returns true; each argument reads behind the call as it read before'; 0 by the template 'total and deterministic' (their statements: YtlghfngomiiclaaTotals.lean).
  GIVEN WITH THE SEED: the statements are not yours to turn. If you find one false, say at which input.
  Laid BY PROGRAM, IN A SANDBOX (cutbox-rows.mjs): the forced cells as the released guide's own fill.sh prints them over the translation 5562c6127f0d7463… (all of the seat's roots in one cut). By AI agents, Wed Nov 11 2026. No macro, syntax, notation, axiom, sorry.
-/
import Derived.Test.YtlghfngomiiclaaChecked
import GoSem.Claim
import GoSem.ClaimJoined
import GoSem.ClaimMapViews
import Derived.JoinedTies
import Derived.KernelRfl
namespace Go.Proofs.Ytlghfngomiiclaa
/- THE CELL 'sum', in the pinned program and in every row, IS THE sha256 OF THE DUMP (.gsa) THAT YtlghfngomiiclaaProg.lean LOADS. Nothing in Lean hashes anything: it is a label: what it is worth is what the hold of that sum in a sandbox is worth. -/
noncomputable def Try.pinned : Pinned := { name := "ytlghfngomiiclaa", sum := "5562c6127f0d74636dd653e26cf394ec109827ef87bc8f02f9bfa2c97c0fe60e", checked := Try.checked }
namespace Rows
def none {H : Type} : Left H := { results := [], args := [] }

/-- 'pendulumlaw15.RasterNames': WHATEVER THE INPUT: true; the input reads as it did. -/
def rasterNamesSpec : ChangeSpec := { name := "rasterNames", fn := fun _ => fun
  | [] => { results := [.lit (.bool true)], args := [] }
  | _ => none }
def rasterNamesRow : OpenClaim := { program := "ytlghfngomiiclaa", sum := "5562c6127f0d74636dd653e26cf394ec109827ef87bc8f02f9bfa2c97c0fe60e", func := "pendulum/pendulumlaw15.RasterNames", spec := "rasterNames", unfollowed := true, recurses := true, apart := false }
def RasterNamesSaid : Prop := rasterNamesRow.holds Try.pinned (OpenSpec.ofChange rasterNamesSpec)

/-- ITS FALSE NEIGHBOUR: 'it returns false'. Refute it at one input. -/
def rasterNamesWrong : ChangeSpec := { name := "rasterNames", fn := fun _ => fun
  | [] => { results := [.lit (.bool false)], args := [] }
  | _ => none }
def RasterNamesWrongFalsely : Prop := rasterNamesRow.holds Try.pinned (OpenSpec.ofChange rasterNamesWrong)

/-- 'pendulumlaw15.RasterCounts': WHATEVER THE INPUT: true; the input reads as it did. -/
def rasterCountsSpec : ChangeSpec := { name := "rasterCounts", fn := fun _ => fun
  | [d] => { results := [.lit (.bool true)], args := [d] }
  | _ => none }
def rasterCountsRow : OpenClaim := { program := "ytlghfngomiiclaa", sum := "5562c6127f0d74636dd653e26cf394ec109827ef87bc8f02f9bfa2c97c0fe60e", func := "pendulum/pendulumlaw15.RasterCounts", spec := "rasterCounts", unfollowed := true, recurses := true, apart := false }
def RasterCountsSaid : Prop := rasterCountsRow.holds Try.pinned (OpenSpec.ofChange rasterCountsSpec)

/-- ITS FALSE NEIGHBOUR: 'it returns false'. Refute it at one input. -/
def rasterCountsWrong : ChangeSpec := { name := "rasterCounts", fn := fun _ => fun
  | [d] => { results := [.lit (.bool false)], args := [d] }
  | _ => none }
def RasterCountsWrongFalsely : Prop := rasterCountsRow.holds Try.pinned (OpenSpec.ofChange rasterCountsWrong)

/-- 'pendulumlaw15.RasterOnce': WHATEVER THE INPUT: true; the input reads as it did. -/
def rasterOnceSpec : ChangeSpec := { name := "rasterOnce", fn := fun _ => fun
  | [d1, d2, d3, d4, d5] => { results := [.lit (.bool true)], args := [d1, d2, d3, d4, d5] }
  | _ => none }
def rasterOnceRow : OpenClaim := { program := "ytlghfngomiiclaa", sum := "5562c6127f0d74636dd653e26cf394ec109827ef87bc8f02f9bfa2c97c0fe60e", func := "pendulum/pendulumlaw15.RasterOnce", spec := "rasterOnce", unfollowed := true, recurses := true, apart := false }
def RasterOnceSaid : Prop := rasterOnceRow.holds Try.pinned (OpenSpec.ofChange rasterOnceSpec)

/-- ITS FALSE NEIGHBOUR: 'it returns false'. Refute it at one input. -/
def rasterOnceWrong : ChangeSpec := { name := "rasterOnce", fn := fun _ => fun
  | [d1, d2, d3, d4, d5] => { results := [.lit (.bool false)], args := [d1, d2, d3, d4, d5] }
  | _ => none }
def RasterOnceWrongFalsely : Prop := rasterOnceRow.holds Try.pinned (OpenSpec.ofChange rasterOnceWrong)

/-- 'pendulumlaw15.RasterPlaces': WHATEVER THE INPUT: true; the input reads as it did. -/
def rasterPlacesSpec : ChangeSpec := { name := "rasterPlaces", fn := fun _ => fun
  | [d1, d2, d3] => { results := [.lit (.bool true)], args := [d1, d2, d3] }
  | _ => none }
def rasterPlacesRow : OpenClaim := { program := "ytlghfngomiiclaa", sum := "5562c6127f0d74636dd653e26cf394ec109827ef87bc8f02f9bfa2c97c0fe60e", func := "pendulum/pendulumlaw15.RasterPlaces", spec := "rasterPlaces", unfollowed := true, recurses := true, apart := false }
def RasterPlacesSaid : Prop := rasterPlacesRow.holds Try.pinned (OpenSpec.ofChange rasterPlacesSpec)

/-- ITS FALSE NEIGHBOUR: 'it returns false'. Refute it at one input. -/
def rasterPlacesWrong : ChangeSpec := { name := "rasterPlaces", fn := fun _ => fun
  | [d1, d2, d3] => { results := [.lit (.bool false)], args := [d1, d2, d3] }
  | _ => none }
def RasterPlacesWrongFalsely : Prop := rasterPlacesRow.holds Try.pinned (OpenSpec.ofChange rasterPlacesWrong)

/-- 'pendulumlaw15.RasterNexts': WHATEVER THE INPUT: true; the input reads as it did. -/
def rasterNextsSpec : ChangeSpec := { name := "rasterNexts", fn := fun _ => fun
  | [d1, d2, d3] => { results := [.lit (.bool true)], args := [d1, d2, d3] }
  | _ => none }
def rasterNextsRow : OpenClaim := { program := "ytlghfngomiiclaa", sum := "5562c6127f0d74636dd653e26cf394ec109827ef87bc8f02f9bfa2c97c0fe60e", func := "pendulum/pendulumlaw15.RasterNexts", spec := "rasterNexts", unfollowed := true, recurses := true, apart := false }
def RasterNextsSaid : Prop := rasterNextsRow.holds Try.pinned (OpenSpec.ofChange rasterNextsSpec)

/-- ITS FALSE NEIGHBOUR: 'it returns false'. Refute it at one input. -/
def rasterNextsWrong : ChangeSpec := { name := "rasterNexts", fn := fun _ => fun
  | [d1, d2, d3] => { results := [.lit (.bool false)], args := [d1, d2, d3] }
  | _ => none }
def RasterNextsWrongFalsely : Prop := rasterNextsRow.holds Try.pinned (OpenSpec.ofChange rasterNextsWrong)

/- THE SECOND FORM. 'bulk': how many values and letters a reading holds, each counted each time it is reached (what is shared counts as often as it is met; a slice's spare places count too). A statement '..UptoSaid' is the law's where the arguments, and the package variables that the reading takes, are together of bulk at most 1048576: NARROWER than '..Said'. Prove '..Said' where nothing that the law and all that it calls make is longer than what came in: it says more and counts as full. Else prove '..UptoSaid'. A law counts once. -/
mutual
def uptoBulk {H : Type} : DataW H → Nat
  | .lit (.string bytes) => bytes.length + 1
  | .lit _ => 1
  | .nil => 1
  | .ptr d => uptoBulk d + 1
  | .slice elems spare => uptoBulkAll elems + uptoBulkAll spare + 1
  | .agg parts => uptoBulkAll parts + 1
  | .iface _ d => uptoBulk d + 1
  | .map entries => uptoBulkEntries entries + 1
  | .held _ => 1
def uptoBulkAll {H : Type} : List (DataW H) → Nat
  | [] => 0
  | d :: r => uptoBulk d + uptoBulkAll r
def uptoBulkEntries {H : Type} : List (Lit × DataW H) → Nat
  | [] => 0
  | x :: r => uptoBulkEntry x + uptoBulkEntries r
def uptoBulkEntry {H : Type} : Lit × DataW H → Nat
  | (.string bytes, d) => bytes.length + uptoBulk d + 1
  | (_, d) => uptoBulk d + 1
 end
def uptoSmall : (H : Type) → List (DataW H) → Bool := fun _ ds => decide (uptoBulkAll ds ≤ 1048576)
def OpenSpec.upto (s : _root_.Go.ChangeSpec) : _root_.Go.OpenSpec := { _root_.Go.OpenSpec.ofChange s with cond := some uptoSmall }

/-- 'pendulumlaw15.RasterNames', WHERE WHAT IT READS IS OF BULK AT MOST 1048576: true; the input reads as it did. -/
def rasterNamesUptoRow : OpenClaim := { program := "ytlghfngomiiclaa", sum := "5562c6127f0d74636dd653e26cf394ec109827ef87bc8f02f9bfa2c97c0fe60e", func := "pendulum/pendulumlaw15.RasterNames", spec := "rasterNames", unfollowed := true, recurses := true, apart := false, narrowed := true }
def RasterNamesUptoSaid : Prop := rasterNamesUptoRow.holds Try.pinned (OpenSpec.upto rasterNamesSpec)

/-- 'pendulumlaw15.RasterCounts', WHERE WHAT IT READS IS OF BULK AT MOST 1048576: true; the input reads as it did. -/
def rasterCountsUptoRow : OpenClaim := { program := "ytlghfngomiiclaa", sum := "5562c6127f0d74636dd653e26cf394ec109827ef87bc8f02f9bfa2c97c0fe60e", func := "pendulum/pendulumlaw15.RasterCounts", spec := "rasterCounts", unfollowed := true, recurses := true, apart := false, narrowed := true }
def RasterCountsUptoSaid : Prop := rasterCountsUptoRow.holds Try.pinned (OpenSpec.upto rasterCountsSpec)

/-- 'pendulumlaw15.RasterOnce', WHERE WHAT IT READS IS OF BULK AT MOST 1048576: true; the input reads as it did. -/
def rasterOnceUptoRow : OpenClaim := { program := "ytlghfngomiiclaa", sum := "5562c6127f0d74636dd653e26cf394ec109827ef87bc8f02f9bfa2c97c0fe60e", func := "pendulum/pendulumlaw15.RasterOnce", spec := "rasterOnce", unfollowed := true, recurses := true, apart := false, narrowed := true }
def RasterOnceUptoSaid : Prop := rasterOnceUptoRow.holds Try.pinned (OpenSpec.upto rasterOnceSpec)

/-- 'pendulumlaw15.RasterPlaces', WHERE WHAT IT READS IS OF BULK AT MOST 1048576: true; the input reads as it did. -/
def rasterPlacesUptoRow : OpenClaim := { program := "ytlghfngomiiclaa", sum := "5562c6127f0d74636dd653e26cf394ec109827ef87bc8f02f9bfa2c97c0fe60e", func := "pendulum/pendulumlaw15.RasterPlaces", spec := "rasterPlaces", unfollowed := true, recurses := true, apart := false, narrowed := true }
def RasterPlacesUptoSaid : Prop := rasterPlacesUptoRow.holds Try.pinned (OpenSpec.upto rasterPlacesSpec)

/-- 'pendulumlaw15.RasterNexts', WHERE WHAT IT READS IS OF BULK AT MOST 1048576: true; the input reads as it did. -/
def rasterNextsUptoRow : OpenClaim := { program := "ytlghfngomiiclaa", sum := "5562c6127f0d74636dd653e26cf394ec109827ef87bc8f02f9bfa2c97c0fe60e", func := "pendulum/pendulumlaw15.RasterNexts", spec := "rasterNexts", unfollowed := true, recurses := true, apart := false, narrowed := true }
def RasterNextsUptoSaid : Prop := rasterNextsUptoRow.holds Try.pinned (OpenSpec.upto rasterNextsSpec)

end Rows
end Go.Proofs.Ytlghfngomiiclaa
