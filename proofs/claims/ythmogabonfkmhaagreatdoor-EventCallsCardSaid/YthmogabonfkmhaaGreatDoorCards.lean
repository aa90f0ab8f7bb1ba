/-
  DERIVED. GIVEN WITH THE SEED: THE CARDS: each row of YthmogabonfkmhaaGreatDoorRows.lean that lists a variable, with what it lists TIED to the program's text (the seventh form; the later family's looks); each row that meets fmt, with fmt's text TOLD by the authors' own Lean function (tested against real Go, not proved from fmt's source: count such statements apart). THE CARD IS WHAT COUNTS. Prove the row's statement (the work); the ties are given (YthmogabonfkmhaaGreatDoorTie.lean); close each card by the builder's one call (the guide's Derived/Test/ToyasCard.lean, 'card_holds'). Laid BY PROGRAM, IN A SANDBOX (cutbox-door.mjs). By AI agents, Wed Nov 11 2026. No macro, syntax, notation, axiom, sorry.
-/
import Derived.Test.YthmogabonfkmhaaGreatDoorRows
import GoSem.ClaimSeven
namespace Go.Proofs.YthmogabonfkmhaaGreatDoor
namespace Rows

/-- THE TIED CARD OF 'pendulumlaw03.EventCalls'. -/
def eventCallsCard : Claim7 := { stood := { row := eventCallsRow, standIns := [], harness := (true, "ba26bdc918d5bedb44a1f3c9a86ebdcd031b4063584c05ec6843e34d71d3afd3"), looks := true }, kinds := [], alts := [], laidByText := true, laidKinds := [.data, .data, .data, .data, .sentinel, .sentinel, .data, .pinned], laidTests := true, laidLooks := .later }
def EventCallsCardSaid : Prop := Claim7.holds Tryz.pinned (.plain (OpenSpec.ofChange eventCallsSpec)) eventCallsCard

/-- THE SECOND FORM's CARD OF 'pendulumlaw03.EventCalls'. -/
def eventCallsUptoCard : Claim7 := { stood := { row := eventCallsUptoRow, standIns := [], harness := (true, "ba26bdc918d5bedb44a1f3c9a86ebdcd031b4063584c05ec6843e34d71d3afd3"), looks := true }, kinds := [], alts := [], laidByText := true, laidKinds := [.data, .data, .data, .data, .sentinel, .sentinel, .data, .pinned], laidTests := true, laidLooks := .later }
def EventCallsUptoCardSaid : Prop := Claim7.holds Tryz.pinned (.plain (OpenSpec.upto eventCallsSpec)) eventCallsUptoCard
end Rows
end Go.Proofs.YthmogabonfkmhaaGreatDoor
