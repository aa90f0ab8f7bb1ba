/-
  No cell of these rows narrows 'for every input' (looked for: loops, veiled, ifaces, maps, wideKeys, modest, calm, conditions, laid).
  DERIVED. THE GIVEN ROWS OF THIS SEAT. 11 by the template 'for every input the law returns true; each argument reads behind the call as it read before'; 0 by the template 'total and deterministic' (their statements: YthimgmcekhgclaaTotals.lean).
  GIVEN WITH THE SEED: the statements are not yours to turn. If you find one false, say at which input.
  Laid BY PROGRAM, IN A SANDBOX (cutbox-rows.mjs): the forced cells as the released guide's own fill.sh prints them over the translation 19b0412392770bca… (all of the seat's roots in one cut). By AI agents, Wed Nov 11 2026. No macro, syntax, notation, axiom, sorry.
-/
import Derived.Test.YthimgmcekhgclaaChecked
import GoSem.Claim
import GoSem.ClaimJoined
import GoSem.ClaimMapViews
import Derived.JoinedTies
import Derived.KernelRfl
namespace Go.Proofs.Ythimgmcekhgclaa
/- THE CELL 'sum', in the pinned program and in every row, IS THE sha256 OF THE DUMP (.gsa) THAT YthimgmcekhgclaaProg.lean LOADS. Nothing in Lean hashes anything: it is a label: what it is worth is what the hold of that sum in a sandbox is worth. -/
noncomputable def Try.pinned : Pinned := { name := "ythimgmcekhgclaa", sum := "19b0412392770bcaf60349e12322230319a434227bc6380c0c563c21c06fbfb6", checked := Try.checked }
namespace Rows
def none {H : Type} : Left H := { results := [], args := [] }

/-- 'pendulumlaw01.OctetNames': WHATEVER THE INPUT: true; the input reads as it did. -/
def octetNamesSpec : ChangeSpec := { name := "octetNames", fn := fun _ => fun
  | [] => { results := [.lit (.bool true)], args := [] }
  | _ => none }
def octetNamesRow : OpenClaim := { program := "ythimgmcekhgclaa", sum := "19b0412392770bcaf60349e12322230319a434227bc6380c0c563c21c06fbfb6", func := "pendulum/pendulumlaw01.OctetNames", spec := "octetNames", apart := false }
def OctetNamesSaid : Prop := octetNamesRow.holds Try.pinned (OpenSpec.ofChange octetNamesSpec)

/-- ITS FALSE NEIGHBOUR: 'it returns false'. Refute it at one input. -/
def octetNamesWrong : ChangeSpec := { name := "octetNames", fn := fun _ => fun
  | [] => { results := [.lit (.bool false)], args := [] }
  | _ => none }
def OctetNamesWrongFalsely : Prop := octetNamesRow.holds Try.pinned (OpenSpec.ofChange octetNamesWrong)

/-- 'pendulumlaw01.OctetPuts': WHATEVER THE INPUT: true; the input reads as it did. -/
def octetPutsSpec : ChangeSpec := { name := "octetPuts", fn := fun _ => fun
  | [d1, d2, d3, d4] => { results := [.lit (.bool true)], args := [d1, d2, d3, d4] }
  | _ => none }
def octetPutsRow : OpenClaim := { program := "ythimgmcekhgclaa", sum := "19b0412392770bcaf60349e12322230319a434227bc6380c0c563c21c06fbfb6", func := "pendulum/pendulumlaw01.OctetPuts", spec := "octetPuts", apart := false }
def OctetPutsSaid : Prop := octetPutsRow.holds Try.pinned (OpenSpec.ofChange octetPutsSpec)

/-- ITS FALSE NEIGHBOUR: 'it returns false'. Refute it at one input. -/
def octetPutsWrong : ChangeSpec := { name := "octetPuts", fn := fun _ => fun
  | [d1, d2, d3, d4] => { results := [.lit (.bool false)], args := [d1, d2, d3, d4] }
  | _ => none }
def OctetPutsWrongFalsely : Prop := octetPutsRow.holds Try.pinned (OpenSpec.ofChange octetPutsWrong)

/-- 'pendulumlaw01.OctetNil': WHATEVER THE INPUT: true; the input reads as it did. -/
def octetNilSpec : ChangeSpec := { name := "octetNil", fn := fun _ => fun
  | [d] => { results := [.lit (.bool true)], args := [d] }
  | _ => none }
def octetNilRow : OpenClaim := { program := "ythimgmcekhgclaa", sum := "19b0412392770bcaf60349e12322230319a434227bc6380c0c563c21c06fbfb6", func := "pendulum/pendulumlaw01.OctetNil", spec := "octetNil", apart := false }
def OctetNilSaid : Prop := octetNilRow.holds Try.pinned (OpenSpec.ofChange octetNilSpec)

/-- ITS FALSE NEIGHBOUR: 'it returns false'. Refute it at one input. -/
def octetNilWrong : ChangeSpec := { name := "octetNil", fn := fun _ => fun
  | [d] => { results := [.lit (.bool false)], args := [d] }
  | _ => none }
def OctetNilWrongFalsely : Prop := octetNilRow.holds Try.pinned (OpenSpec.ofChange octetNilWrong)

/-- 'pendulumlaw01.OctetBack': WHATEVER THE INPUT: true; the input reads as it did. -/
def octetBackSpec : ChangeSpec := { name := "octetBack", fn := fun _ => fun
  | [d1, d2, d3] => { results := [.lit (.bool true)], args := [d1, d2, d3] }
  | _ => none }
def octetBackRow : OpenClaim := { program := "ythimgmcekhgclaa", sum := "19b0412392770bcaf60349e12322230319a434227bc6380c0c563c21c06fbfb6", func := "pendulum/pendulumlaw01.OctetBack", spec := "octetBack", apart := false }
def OctetBackSaid : Prop := octetBackRow.holds Try.pinned (OpenSpec.ofChange octetBackSpec)

/-- ITS FALSE NEIGHBOUR: 'it returns false'. Refute it at one input. -/
def octetBackWrong : ChangeSpec := { name := "octetBack", fn := fun _ => fun
  | [d1, d2, d3] => { results := [.lit (.bool false)], args := [d1, d2, d3] }
  | _ => none }
def OctetBackWrongFalsely : Prop := octetBackRow.holds Try.pinned (OpenSpec.ofChange octetBackWrong)

/-- 'pendulumlaw01.OctetOnly': WHATEVER THE INPUT: true; the input reads as it did. -/
def octetOnlySpec : ChangeSpec := { name := "octetOnly", fn := fun _ => fun
  | [d] => { results := [.lit (.bool true)], args := [d] }
  | _ => none }
def octetOnlyRow : OpenClaim := { program := "ythimgmcekhgclaa", sum := "19b0412392770bcaf60349e12322230319a434227bc6380c0c563c21c06fbfb6", func := "pendulum/pendulumlaw01.OctetOnly", spec := "octetOnly", apart := false }
def OctetOnlySaid : Prop := octetOnlyRow.holds Try.pinned (OpenSpec.ofChange octetOnlySpec)

/-- ITS FALSE NEIGHBOUR: 'it returns false'. Refute it at one input. -/
def octetOnlyWrong : ChangeSpec := { name := "octetOnly", fn := fun _ => fun
  | [d] => { results := [.lit (.bool false)], args := [d] }
  | _ => none }
def OctetOnlyWrongFalsely : Prop := octetOnlyRow.holds Try.pinned (OpenSpec.ofChange octetOnlyWrong)

/-- 'pendulumlaw01.OctetSees': WHATEVER THE INPUT: true; the input reads as it did. -/
def octetSeesSpec : ChangeSpec := { name := "octetSees", fn := fun _ => fun
  | [d1, d2, d3, d4] => { results := [.lit (.bool true)], args := [d1, d2, d3, d4] }
  | _ => none }
def octetSeesRow : OpenClaim := { program := "ythimgmcekhgclaa", sum := "19b0412392770bcaf60349e12322230319a434227bc6380c0c563c21c06fbfb6", func := "pendulum/pendulumlaw01.OctetSees", spec := "octetSees", apart := false }
def OctetSeesSaid : Prop := octetSeesRow.holds Try.pinned (OpenSpec.ofChange octetSeesSpec)

/-- ITS FALSE NEIGHBOUR: 'it returns false'. Refute it at one input. -/
def octetSeesWrong : ChangeSpec := { name := "octetSees", fn := fun _ => fun
  | [d1, d2, d3, d4] => { results := [.lit (.bool false)], args := [d1, d2, d3, d4] }
  | _ => none }
def OctetSeesWrongFalsely : Prop := octetSeesRow.holds Try.pinned (OpenSpec.ofChange octetSeesWrong)

/-- 'pendulumlaw02.TstateNames': WHATEVER THE INPUT: true; the input reads as it did. -/
def tstateNamesSpec : ChangeSpec := { name := "tstateNames", fn := fun _ => fun
  | [] => { results := [.lit (.bool true)], args := [] }
  | _ => none }
def tstateNamesRow : OpenClaim := { program := "ythimgmcekhgclaa", sum := "19b0412392770bcaf60349e12322230319a434227bc6380c0c563c21c06fbfb6", func := "pendulum/pendulumlaw02.TstateNames", spec := "tstateNames", unfollowed := true, recurses := true, apart := false }
def TstateNamesSaid : Prop := tstateNamesRow.holds Try.pinned (OpenSpec.ofChange tstateNamesSpec)

/-- ITS FALSE NEIGHBOUR: 'it returns false'. Refute it at one input. -/
def tstateNamesWrong : ChangeSpec := { name := "tstateNames", fn := fun _ => fun
  | [] => { results := [.lit (.bool false)], args := [] }
  | _ => none }
def TstateNamesWrongFalsely : Prop := tstateNamesRow.holds Try.pinned (OpenSpec.ofChange tstateNamesWrong)

/-- 'pendulumlaw02.TstateCalls': WHATEVER THE INPUT: true; the input reads as it did. -/
def tstateCallsSpec : ChangeSpec := { name := "tstateCalls", fn := fun _ => fun
  | [d1, d2, d3, d4, d5] => { results := [.lit (.bool true)], args := [d1, d2, d3, d4, d5] }
  | _ => none }
def tstateCallsRow : OpenClaim := { program := "ythimgmcekhgclaa", sum := "19b0412392770bcaf60349e12322230319a434227bc6380c0c563c21c06fbfb6", func := "pendulum/pendulumlaw02.TstateCalls", spec := "tstateCalls", unfollowed := true, recurses := true, apart := false }
def TstateCallsSaid : Prop := tstateCallsRow.holds Try.pinned (OpenSpec.ofChange tstateCallsSpec)

/-- ITS FALSE NEIGHBOUR: 'it returns false'. Refute it at one input. -/
def tstateCallsWrong : ChangeSpec := { name := "tstateCalls", fn := fun _ => fun
  | [d1, d2, d3, d4, d5] => { results := [.lit (.bool false)], args := [d1, d2, d3, d4, d5] }
  | _ => none }
def TstateCallsWrongFalsely : Prop := tstateCallsRow.holds Try.pinned (OpenSpec.ofChange tstateCallsWrong)

/-- 'pendulumlaw02.TstateBack': WHATEVER THE INPUT: true; the input reads as it did. -/
def tstateBackSpec : ChangeSpec := { name := "tstateBack", fn := fun _ => fun
  | [d1, d2, d3] => { results := [.lit (.bool true)], args := [d1, d2, d3] }
  | _ => none }
def tstateBackRow : OpenClaim := { program := "ythimgmcekhgclaa", sum := "19b0412392770bcaf60349e12322230319a434227bc6380c0c563c21c06fbfb6", func := "pendulum/pendulumlaw02.TstateBack", spec := "tstateBack", unfollowed := true, recurses := true, apart := false }
def TstateBackSaid : Prop := tstateBackRow.holds Try.pinned (OpenSpec.ofChange tstateBackSpec)

/-- ITS FALSE NEIGHBOUR: 'it returns false'. Refute it at one input. -/
def tstateBackWrong : ChangeSpec := { name := "tstateBack", fn := fun _ => fun
  | [d1, d2, d3] => { results := [.lit (.bool false)], args := [d1, d2, d3] }
  | _ => none }
def TstateBackWrongFalsely : Prop := tstateBackRow.holds Try.pinned (OpenSpec.ofChange tstateBackWrong)

/-- 'pendulumlaw02.TstatePulses': WHATEVER THE INPUT: true; the input reads as it did. -/
def tstatePulsesSpec : ChangeSpec := { name := "tstatePulses", fn := fun _ => fun
  | [d1, d2, d3, d4, d5] => { results := [.lit (.bool true)], args := [d1, d2, d3, d4, d5] }
  | _ => none }
def tstatePulsesRow : OpenClaim := { program := "ythimgmcekhgclaa", sum := "19b0412392770bcaf60349e12322230319a434227bc6380c0c563c21c06fbfb6", func := "pendulum/pendulumlaw02.TstatePulses", spec := "tstatePulses", unfollowed := true, recurses := true, apart := false }
def TstatePulsesSaid : Prop := tstatePulsesRow.holds Try.pinned (OpenSpec.ofChange tstatePulsesSpec)

/-- ITS FALSE NEIGHBOUR: 'it returns false'. Refute it at one input. -/
def tstatePulsesWrong : ChangeSpec := { name := "tstatePulses", fn := fun _ => fun
  | [d1, d2, d3, d4, d5] => { results := [.lit (.bool false)], args := [d1, d2, d3, d4, d5] }
  | _ => none }
def TstatePulsesWrongFalsely : Prop := tstatePulsesRow.holds Try.pinned (OpenSpec.ofChange tstatePulsesWrong)

/-- 'pendulumlaw02.TstateFits': WHATEVER THE INPUT: true; the input reads as it did. -/
def tstateFitsSpec : ChangeSpec := { name := "tstateFits", fn := fun _ => fun
  | [d1, d2] => { results := [.lit (.bool true)], args := [d1, d2] }
  | _ => none }
def tstateFitsRow : OpenClaim := { program := "ythimgmcekhgclaa", sum := "19b0412392770bcaf60349e12322230319a434227bc6380c0c563c21c06fbfb6", func := "pendulum/pendulumlaw02.TstateFits", spec := "tstateFits", unfollowed := true, recurses := true, apart := false }
def TstateFitsSaid : Prop := tstateFitsRow.holds Try.pinned (OpenSpec.ofChange tstateFitsSpec)

/-- ITS FALSE NEIGHBOUR: 'it returns false'. Refute it at one input. -/
def tstateFitsWrong : ChangeSpec := { name := "tstateFits", fn := fun _ => fun
  | [d1, d2] => { results := [.lit (.bool false)], args := [d1, d2] }
  | _ => none }
def TstateFitsWrongFalsely : Prop := tstateFitsRow.holds Try.pinned (OpenSpec.ofChange tstateFitsWrong)

/- THE SECOND FORM. 'bulk': how many values and letters a reading holds, each counted each time it is reached (what is shared counts as often as it is met; a slice's spare places count too). A statement '..UptoSaid' is the law's where the arguments, and the package variables that the reading takes, are together of bulk at most 1048576: NARROWER than '..Said'. Prove '..Said' where nothing that the law and all that it calls make is longer than what came in: it says more and counts as full. Else prove '..UptoSaid'. A law counts once. -/
mutual
def uptoBulk {H : Type} : DataW H → Nat
  | .lit (.string bytes) => bytes.length + 1
  | .lit _ => 1
  | .nil => 1
  | .ptr d => uptoBulk d + 1
  | .slice elems spare => uptoBulkAll elems + uptoBulkAll spare + 1
  | .agg parts => uptoBulkAll parts + 1
  | .iface _ d => uptoBulk d + 1
  | .map entries => uptoBulkEntries entries + 1
  | .held _ => 1
def uptoBulkAll {H : Type} : List (DataW H) → Nat
  | [] => 0
  | d :: r => uptoBulk d + uptoBulkAll r
def uptoBulkEntries {H : Type} : List (Lit × DataW H) → Nat
  | [] => 0
  | x :: r => uptoBulkEntry x + uptoBulkEntries r
def uptoBulkEntry {H : Type} : Lit × DataW H → Nat
  | (.string bytes, d) => bytes.length + uptoBulk d + 1
  | (_, d) => uptoBulk d + 1
 end
def uptoSmall : (H : Type) → List (DataW H) → Bool := fun _ ds => decide (uptoBulkAll ds ≤ 1048576)
def OpenSpec.upto (s : _root_.Go.ChangeSpec) : _root_.Go.OpenSpec := { _root_.Go.OpenSpec.ofChange s with cond := some uptoSmall }

/-- 'pendulumlaw01.OctetNames', WHERE WHAT IT READS IS OF BULK AT MOST 1048576: true; the input reads as it did. -/
def octetNamesUptoRow : OpenClaim := { program := "ythimgmcekhgclaa", sum := "19b0412392770bcaf60349e12322230319a434227bc6380c0c563c21c06fbfb6", func := "pendulum/pendulumlaw01.OctetNames", spec := "octetNames", apart := false, narrowed := true }
def OctetNamesUptoSaid : Prop := octetNamesUptoRow.holds Try.pinned (OpenSpec.upto octetNamesSpec)

/-- 'pendulumlaw01.OctetPuts', WHERE WHAT IT READS IS OF BULK AT MOST 1048576: true; the input reads as it did. -/
def octetPutsUptoRow : OpenClaim := { program := "ythimgmcekhgclaa", sum := "19b0412392770bcaf60349e12322230319a434227bc6380c0c563c21c06fbfb6", func := "pendulum/pendulumlaw01.OctetPuts", spec := "octetPuts", apart := false, narrowed := true }
def OctetPutsUptoSaid : Prop := octetPutsUptoRow.holds Try.pinned (OpenSpec.upto octetPutsSpec)

/-- 'pendulumlaw01.OctetNil', WHERE WHAT IT READS IS OF BULK AT MOST 1048576: true; the input reads as it did. -/
def octetNilUptoRow : OpenClaim := { program := "ythimgmcekhgclaa", sum := "19b0412392770bcaf60349e12322230319a434227bc6380c0c563c21c06fbfb6", func := "pendulum/pendulumlaw01.OctetNil", spec := "octetNil", apart := false, narrowed := true }
def OctetNilUptoSaid : Prop := octetNilUptoRow.holds Try.pinned (OpenSpec.upto octetNilSpec)

/-- 'pendulumlaw01.OctetBack', WHERE WHAT IT READS IS OF BULK AT MOST 1048576: true; the input reads as it did. -/
def octetBackUptoRow : OpenClaim := { program := "ythimgmcekhgclaa", sum := "19b0412392770bcaf60349e12322230319a434227bc6380c0c563c21c06fbfb6", func := "pendulum/pendulumlaw01.OctetBack", spec := "octetBack", apart := false, narrowed := true }
def OctetBackUptoSaid : Prop := octetBackUptoRow.holds Try.pinned (OpenSpec.upto octetBackSpec)

/-- 'pendulumlaw01.OctetOnly', WHERE WHAT IT READS IS OF BULK AT MOST 1048576: true; the input reads as it did. -/
def octetOnlyUptoRow : OpenClaim := { program := "ythimgmcekhgclaa", sum := "19b0412392770bcaf60349e12322230319a434227bc6380c0c563c21c06fbfb6", func := "pendulum/pendulumlaw01.OctetOnly", spec := "octetOnly", apart := false, narrowed := true }
def OctetOnlyUptoSaid : Prop := octetOnlyUptoRow.holds Try.pinned (OpenSpec.upto octetOnlySpec)

/-- 'pendulumlaw01.OctetSees', WHERE WHAT IT READS IS OF BULK AT MOST 1048576: true; the input reads as it did. -/
def octetSeesUptoRow : OpenClaim := { program := "ythimgmcekhgclaa", sum := "19b0412392770bcaf60349e12322230319a434227bc6380c0c563c21c06fbfb6", func := "pendulum/pendulumlaw01.OctetSees", spec := "octetSees", apart := false, narrowed := true }
def OctetSeesUptoSaid : Prop := octetSeesUptoRow.holds Try.pinned (OpenSpec.upto octetSeesSpec)

/-- 'pendulumlaw02.TstateNames', WHERE WHAT IT READS IS OF BULK AT MOST 1048576: true; the input reads as it did. -/
def tstateNamesUptoRow : OpenClaim := { program := "ythimgmcekhgclaa", sum := "19b0412392770bcaf60349e12322230319a434227bc6380c0c563c21c06fbfb6", func := "pendulum/pendulumlaw02.TstateNames", spec := "tstateNames", unfollowed := true, recurses := true, apart := false, narrowed := true }
def TstateNamesUptoSaid : Prop := tstateNamesUptoRow.holds Try.pinned (OpenSpec.upto tstateNamesSpec)

/-- 'pendulumlaw02.TstateCalls', WHERE WHAT IT READS IS OF BULK AT MOST 1048576: true; the input reads as it did. -/
def tstateCallsUptoRow : OpenClaim := { program := "ythimgmcekhgclaa", sum := "19b0412392770bcaf60349e12322230319a434227bc6380c0c563c21c06fbfb6", func := "pendulum/pendulumlaw02.TstateCalls", spec := "tstateCalls", unfollowed := true, recurses := true, apart := false, narrowed := true }
def TstateCallsUptoSaid : Prop := tstateCallsUptoRow.holds Try.pinned (OpenSpec.upto tstateCallsSpec)

/-- 'pendulumlaw02.TstateBack', WHERE WHAT IT READS IS OF BULK AT MOST 1048576: true; the input reads as it did. -/
def tstateBackUptoRow : OpenClaim := { program := "ythimgmcekhgclaa", sum := "19b0412392770bcaf60349e12322230319a434227bc6380c0c563c21c06fbfb6", func := "pendulum/pendulumlaw02.TstateBack", spec := "tstateBack", unfollowed := true, recurses := true, apart := false, narrowed := true }
def TstateBackUptoSaid : Prop := tstateBackUptoRow.holds Try.pinned (OpenSpec.upto tstateBackSpec)

/-- 'pendulumlaw02.TstatePulses', WHERE WHAT IT READS IS OF BULK AT MOST 1048576: true; the input reads as it did. -/
def tstatePulsesUptoRow : OpenClaim := { program := "ythimgmcekhgclaa", sum := "19b0412392770bcaf60349e12322230319a434227bc6380c0c563c21c06fbfb6", func := "pendulum/pendulumlaw02.TstatePulses", spec := "tstatePulses", unfollowed := true, recurses := true, apart := false, narrowed := true }
def TstatePulsesUptoSaid : Prop := tstatePulsesUptoRow.holds Try.pinned (OpenSpec.upto tstatePulsesSpec)

/-- 'pendulumlaw02.TstateFits', WHERE WHAT IT READS IS OF BULK AT MOST 1048576: true; the input reads as it did. -/
def tstateFitsUptoRow : OpenClaim := { program := "ythimgmcekhgclaa", sum := "19b0412392770bcaf60349e12322230319a434227bc6380c0c563c21c06fbfb6", func := "pendulum/pendulumlaw02.TstateFits", spec := "tstateFits", unfollowed := true, recurses := true, apart := false, narrowed := true }
def TstateFitsUptoSaid : Prop := tstateFitsUptoRow.holds Try.pinned (OpenSpec.upto tstateFitsSpec)

end Rows
end Go.Proofs.Ythimgmcekhgclaa
