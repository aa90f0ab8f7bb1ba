/-
  No cell of these rows narrows 'for every input' (looked for: loops, veiled, ifaces, maps, wideKeys, modest, calm, conditions, laid).
  DERIVED. THE GIVEN ROWS OF THIS SEAT. 6 by the template 'for every input the law returns true; each argument reads behind the call as it read before'; 0 by the template 'total and deterministic' (their statements: YtkmgdpbknmoliaaTotals.lean).
  GIVEN WITH THE SEED: the statements are not yours to turn. If you find one false, say at which input.
  Laid BY PROGRAM, IN A SANDBOX (cutbox-rows.mjs): the forced cells as the released guide's own fill.sh prints them over the translation ac6047e66645021e… (all of the seat's roots in one cut). By AI agents, Wed Nov 11 2026. No macro, syntax, notation, axiom, sorry.
-/
import Derived.Test.YtkmgdpbknmoliaaChecked
import GoSem.Claim
import GoSem.ClaimJoined
import GoSem.ClaimMapViews
import Derived.JoinedTies
import Derived.KernelRfl
namespace Go.Proofs.Ytkmgdpbknmoliaa
/- THE CELL 'sum', in the pinned program and in every row, IS THE sha256 OF THE DUMP (.gsa) THAT YtkmgdpbknmoliaaProg.lean LOADS. Nothing in Lean hashes anything: it is a label: what it is worth is what the hold of that sum in a sandbox is worth. -/
noncomputable def Try.pinned : Pinned := { name := "ytkmgdpbknmoliaa", sum := "ac6047e66645021eb50ccaffb7d4cda4e8163f6b88efd1e1f8c5e8e58adf6473", checked := Try.checked }
namespace Rows
def none {H : Type} : Left H := { results := [], args := [] }

/-- 'pendulumlaw05.AluNames': WHATEVER THE INPUT: true; the input reads as it did. -/
def aluNamesSpec : ChangeSpec := { name := "aluNames", fn := fun _ => fun
  | [] => { results := [.lit (.bool true)], args := [] }
  | _ => none }
def aluNamesRow : OpenClaim := { program := "ytkmgdpbknmoliaa", sum := "ac6047e66645021eb50ccaffb7d4cda4e8163f6b88efd1e1f8c5e8e58adf6473", func := "pendulum/pendulumlaw05.AluNames", spec := "aluNames", apart := false }
def AluNamesSaid : Prop := aluNamesRow.holds Try.pinned (OpenSpec.ofChange aluNamesSpec)

/-- ITS FALSE NEIGHBOUR: 'it returns false'. Refute it at one input. -/
def aluNamesWrong : ChangeSpec := { name := "aluNames", fn := fun _ => fun
  | [] => { results := [.lit (.bool false)], args := [] }
  | _ => none }
def AluNamesWrongFalsely : Prop := aluNamesRow.holds Try.pinned (OpenSpec.ofChange aluNamesWrong)

/-- 'pendulumlaw05.AluCalls': WHATEVER THE INPUT: true; the input reads as it did. -/
def aluCallsSpec : ChangeSpec := { name := "aluCalls", fn := fun _ => fun
  | [d1, d2, d3, d4, d5] => { results := [.lit (.bool true)], args := [d1, d2, d3, d4, d5] }
  | _ => none }
def aluCallsRow : OpenClaim := { program := "ytkmgdpbknmoliaa", sum := "ac6047e66645021eb50ccaffb7d4cda4e8163f6b88efd1e1f8c5e8e58adf6473", func := "pendulum/pendulumlaw05.AluCalls", spec := "aluCalls", unfollowed := true, recurses := true, apart := false }
def AluCallsSaid : Prop := aluCallsRow.holds Try.pinned (OpenSpec.ofChange aluCallsSpec)

/-- ITS FALSE NEIGHBOUR: 'it returns false'. Refute it at one input. -/
def aluCallsWrong : ChangeSpec := { name := "aluCalls", fn := fun _ => fun
  | [d1, d2, d3, d4, d5] => { results := [.lit (.bool false)], args := [d1, d2, d3, d4, d5] }
  | _ => none }
def AluCallsWrongFalsely : Prop := aluCallsRow.holds Try.pinned (OpenSpec.ofChange aluCallsWrong)

/-- 'pendulumlaw05.AluLogic': WHATEVER THE INPUT: true; the input reads as it did. -/
def aluLogicSpec : ChangeSpec := { name := "aluLogic", fn := fun _ => fun
  | [d1, d2, d3] => { results := [.lit (.bool true)], args := [d1, d2, d3] }
  | _ => none }
def aluLogicRow : OpenClaim := { program := "ytkmgdpbknmoliaa", sum := "ac6047e66645021eb50ccaffb7d4cda4e8163f6b88efd1e1f8c5e8e58adf6473", func := "pendulum/pendulumlaw05.AluLogic", spec := "aluLogic", apart := false }
def AluLogicSaid : Prop := aluLogicRow.holds Try.pinned (OpenSpec.ofChange aluLogicSpec)

/-- ITS FALSE NEIGHBOUR: 'it returns false'. Refute it at one input. -/
def aluLogicWrong : ChangeSpec := { name := "aluLogic", fn := fun _ => fun
  | [d1, d2, d3] => { results := [.lit (.bool false)], args := [d1, d2, d3] }
  | _ => none }
def AluLogicWrongFalsely : Prop := aluLogicRow.holds Try.pinned (OpenSpec.ofChange aluLogicWrong)

/-- 'pendulumlaw05.AluBack': WHATEVER THE INPUT: true; the input reads as it did. -/
def aluBackSpec : ChangeSpec := { name := "aluBack", fn := fun _ => fun
  | [d1, d2, d3] => { results := [.lit (.bool true)], args := [d1, d2, d3] }
  | _ => none }
def aluBackRow : OpenClaim := { program := "ytkmgdpbknmoliaa", sum := "ac6047e66645021eb50ccaffb7d4cda4e8163f6b88efd1e1f8c5e8e58adf6473", func := "pendulum/pendulumlaw05.AluBack", spec := "aluBack", apart := false }
def AluBackSaid : Prop := aluBackRow.holds Try.pinned (OpenSpec.ofChange aluBackSpec)

/-- ITS FALSE NEIGHBOUR: 'it returns false'. Refute it at one input. -/
def aluBackWrong : ChangeSpec := { name := "aluBack", fn := fun _ => fun
  | [d1, d2, d3] => { results := [.lit (.bool false)], args := [d1, d2, d3] }
  | _ => none }
def AluBackWrongFalsely : Prop := aluBackRow.holds Try.pinned (OpenSpec.ofChange aluBackWrong)

/-- 'pendulumlaw05.AluWords': WHATEVER THE INPUT: true; the input reads as it did. -/
def aluWordsSpec : ChangeSpec := { name := "aluWords", fn := fun _ => fun
  | [d1, d2, d3] => { results := [.lit (.bool true)], args := [d1, d2, d3] }
  | _ => none }
def aluWordsRow : OpenClaim := { program := "ytkmgdpbknmoliaa", sum := "ac6047e66645021eb50ccaffb7d4cda4e8163f6b88efd1e1f8c5e8e58adf6473", func := "pendulum/pendulumlaw05.AluWords", spec := "aluWords", apart := false }
def AluWordsSaid : Prop := aluWordsRow.holds Try.pinned (OpenSpec.ofChange aluWordsSpec)

/-- ITS FALSE NEIGHBOUR: 'it returns false'. Refute it at one input. -/
def aluWordsWrong : ChangeSpec := { name := "aluWords", fn := fun _ => fun
  | [d1, d2, d3] => { results := [.lit (.bool false)], args := [d1, d2, d3] }
  | _ => none }
def AluWordsWrongFalsely : Prop := aluWordsRow.holds Try.pinned (OpenSpec.ofChange aluWordsWrong)

/-- 'pendulumlaw05.AluSame': WHATEVER THE INPUT: true; the input reads as it did. -/
def aluSameSpec : ChangeSpec := { name := "aluSame", fn := fun _ => fun
  | [d1, d2, d3, d4] => { results := [.lit (.bool true)], args := [d1, d2, d3, d4] }
  | _ => none }
def aluSameRow : OpenClaim := { program := "ytkmgdpbknmoliaa", sum := "ac6047e66645021eb50ccaffb7d4cda4e8163f6b88efd1e1f8c5e8e58adf6473", func := "pendulum/pendulumlaw05.AluSame", spec := "aluSame", unfollowed := true, recurses := true, apart := false }
def AluSameSaid : Prop := aluSameRow.holds Try.pinned (OpenSpec.ofChange aluSameSpec)

/-- ITS FALSE NEIGHBOUR: 'it returns false'. Refute it at one input. -/
def aluSameWrong : ChangeSpec := { name := "aluSame", fn := fun _ => fun
  | [d1, d2, d3, d4] => { results := [.lit (.bool false)], args := [d1, d2, d3, d4] }
  | _ => none }
def AluSameWrongFalsely : Prop := aluSameRow.holds Try.pinned (OpenSpec.ofChange aluSameWrong)

/- THE SECOND FORM. 'bulk': how many values and letters a reading holds, each counted each time it is reached (what is shared counts as often as it is met; a slice's spare places count too). A statement '..UptoSaid' is the law's where the arguments, and the package variables that the reading takes, are together of bulk at most 1048576: NARROWER than '..Said'. Prove '..Said' where nothing that the law and all that it calls make is longer than what came in: it says more and counts as full. Else prove '..UptoSaid'. A law counts once. -/
mutual
def uptoBulk {H : Type} : DataW H → Nat
  | .lit (.string bytes) => bytes.length + 1
  | .lit _ => 1
  | .nil => 1
  | .ptr d => uptoBulk d + 1
  | .slice elems spare => uptoBulkAll elems + uptoBulkAll spare + 1
  | .agg parts => uptoBulkAll parts + 1
  | .iface _ d => uptoBulk d + 1
  | .map entries => uptoBulkEntries entries + 1
  | .held _ => 1
def uptoBulkAll {H : Type} : List (DataW H) → Nat
  | [] => 0
  | d :: r => uptoBulk d + uptoBulkAll r
def uptoBulkEntries {H : Type} : List (Lit × DataW H) → Nat
  | [] => 0
  | x :: r => uptoBulkEntry x + uptoBulkEntries r
def uptoBulkEntry {H : Type} : Lit × DataW H → Nat
  | (.string bytes, d) => bytes.length + uptoBulk d + 1
  | (_, d) => uptoBulk d + 1
 end
def uptoSmall : (H : Type) → List (DataW H) → Bool := fun _ ds => decide (uptoBulkAll ds ≤ 1048576)
def OpenSpec.upto (s : _root_.Go.ChangeSpec) : _root_.Go.OpenSpec := { _root_.Go.OpenSpec.ofChange s with cond := some uptoSmall }

/-- 'pendulumlaw05.AluNames', WHERE WHAT IT READS IS OF BULK AT MOST 1048576: true; the input reads as it did. -/
def aluNamesUptoRow : OpenClaim := { program := "ytkmgdpbknmoliaa", sum := "ac6047e66645021eb50ccaffb7d4cda4e8163f6b88efd1e1f8c5e8e58adf6473", func := "pendulum/pendulumlaw05.AluNames", spec := "aluNames", apart := false, narrowed := true }
def AluNamesUptoSaid : Prop := aluNamesUptoRow.holds Try.pinned (OpenSpec.upto aluNamesSpec)

/-- 'pendulumlaw05.AluCalls', WHERE WHAT IT READS IS OF BULK AT MOST 1048576: true; the input reads as it did. -/
def aluCallsUptoRow : OpenClaim := { program := "ytkmgdpbknmoliaa", sum := "ac6047e66645021eb50ccaffb7d4cda4e8163f6b88efd1e1f8c5e8e58adf6473", func := "pendulum/pendulumlaw05.AluCalls", spec := "aluCalls", unfollowed := true, recurses := true, apart := false, narrowed := true }
def AluCallsUptoSaid : Prop := aluCallsUptoRow.holds Try.pinned (OpenSpec.upto aluCallsSpec)

/-- 'pendulumlaw05.AluLogic', WHERE WHAT IT READS IS OF BULK AT MOST 1048576: true; the input reads as it did. -/
def aluLogicUptoRow : OpenClaim := { program := "ytkmgdpbknmoliaa", sum := "ac6047e66645021eb50ccaffb7d4cda4e8163f6b88efd1e1f8c5e8e58adf6473", func := "pendulum/pendulumlaw05.AluLogic", spec := "aluLogic", apart := false, narrowed := true }
def AluLogicUptoSaid : Prop := aluLogicUptoRow.holds Try.pinned (OpenSpec.upto aluLogicSpec)

/-- 'pendulumlaw05.AluBack', WHERE WHAT IT READS IS OF BULK AT MOST 1048576: true; the input reads as it did. -/
def aluBackUptoRow : OpenClaim := { program := "ytkmgdpbknmoliaa", sum := "ac6047e66645021eb50ccaffb7d4cda4e8163f6b88efd1e1f8c5e8e58adf6473", func := "pendulum/pendulumlaw05.AluBack", spec := "aluBack", apart := false, narrowed := true }
def AluBackUptoSaid : Prop := aluBackUptoRow.holds Try.pinned (OpenSpec.upto aluBackSpec)

/-- 'pendulumlaw05.AluWords', WHERE WHAT IT READS IS OF BULK AT MOST 1048576: true; the input reads as it did. -/
def aluWordsUptoRow : OpenClaim := { program := "ytkmgdpbknmoliaa", sum := "ac6047e66645021eb50ccaffb7d4cda4e8163f6b88efd1e1f8c5e8e58adf6473", func := "pendulum/pendulumlaw05.AluWords", spec := "aluWords", apart := false, narrowed := true }
def AluWordsUptoSaid : Prop := aluWordsUptoRow.holds Try.pinned (OpenSpec.upto aluWordsSpec)

/-- 'pendulumlaw05.AluSame', WHERE WHAT IT READS IS OF BULK AT MOST 1048576: true; the input reads as it did. -/
def aluSameUptoRow : OpenClaim := { program := "ytkmgdpbknmoliaa", sum := "ac6047e66645021eb50ccaffb7d4cda4e8163f6b88efd1e1f8c5e8e58adf6473", func := "pendulum/pendulumlaw05.AluSame", spec := "aluSame", unfollowed := true, recurses := true, apart := false, narrowed := true }
def AluSameUptoSaid : Prop := aluSameUptoRow.holds Try.pinned (OpenSpec.upto aluSameSpec)

end Rows
end Go.Proofs.Ytkmgdpbknmoliaa
