/-
  DERIVED. GIVEN WITH THE SEED: THE CARDS: each row of YtmgaibpdpcancaaDoorRows.lean that lists a variable, with what it lists TIED to the program's text (the seventh form; the later family's looks); each row that meets fmt, with fmt's text TOLD by the authors' own Lean function (tested against real Go, not proved from fmt's source: count such statements apart). THE CARD IS WHAT COUNTS. Prove the row's statement (the work); the ties are given (YtmgaibpdpcancaaDoorTie.lean); close each card by the builder's one call (the guide's Derived/Test/ToyasCard.lean, 'card_holds'). Laid BY PROGRAM, IN A SANDBOX (cutbox-door.mjs). By AI agents, Wed Nov 11 2026. No macro, syntax, notation, axiom, sorry.
-/
import Derived.Test.YtmgaibpdpcancaaDoorRows
import GoSem.ClaimSeven
namespace Go.Proofs.YtmgaibpdpcancaaDoor
namespace Rows

/-- THE TIED CARD OF 'pendulumlaw14.PortNames'. -/
def portNamesCard : Claim7 := { stood := { row := portNamesRow, standIns := [], harness := (true, "9cfd02a8a7e88cfe3d63f8a176a40b2d80267a021b0c95e0bf174fef261b55f7"), looks := false }, kinds := [], alts := [], laidByText := true, laidKinds := [.data, .data, .data], laidTests := true, laidLooks := .later }
def PortNamesCardSaid : Prop := Claim7.holds Tryd.pinned (.plain (OpenSpec.ofChange portNamesSpec)) portNamesCard

/-- THE TIED CARD OF 'pendulumlaw14.PortCalls'. -/
def portCallsCard : Claim7 := { stood := { row := portCallsRow, standIns := [], harness := (true, "9cfd02a8a7e88cfe3d63f8a176a40b2d80267a021b0c95e0bf174fef261b55f7"), looks := false }, kinds := [], alts := [], laidByText := true, laidKinds := [.data, .data, .data], laidTests := true, laidLooks := .later }
def PortCallsCardSaid : Prop := Claim7.holds Tryd.pinned (.plain (OpenSpec.ofChange portCallsSpec)) portCallsCard

/-- THE TIED CARD OF 'pendulumlaw14.PortLists'. -/
def portListsCard : Claim7 := { stood := { row := portListsRow, standIns := [], harness := (true, "9cfd02a8a7e88cfe3d63f8a176a40b2d80267a021b0c95e0bf174fef261b55f7"), looks := false }, kinds := [], alts := [], laidByText := true, laidKinds := [.data], laidTests := true, laidLooks := .later }
def PortListsCardSaid : Prop := Claim7.holds Tryd.pinned (.plain (OpenSpec.ofChange portListsSpec)) portListsCard

/-- THE TIED CARD OF 'pendulumlaw14.PortUsuals'. -/
def portUsualsCard : Claim7 := { stood := { row := portUsualsRow, standIns := [], harness := (true, "9cfd02a8a7e88cfe3d63f8a176a40b2d80267a021b0c95e0bf174fef261b55f7"), looks := false }, kinds := [], alts := [], laidByText := true, laidKinds := [.data, .data, .data], laidTests := true, laidLooks := .later }
def PortUsualsCardSaid : Prop := Claim7.holds Tryd.pinned (.plain (OpenSpec.ofChange portUsualsSpec)) portUsualsCard

/-- THE SECOND FORM's CARD OF 'pendulumlaw14.PortNames'. -/
def portNamesUptoCard : Claim7 := { stood := { row := portNamesUptoRow, standIns := [], harness := (true, "9cfd02a8a7e88cfe3d63f8a176a40b2d80267a021b0c95e0bf174fef261b55f7"), looks := false }, kinds := [], alts := [], laidByText := true, laidKinds := [.data, .data, .data], laidTests := true, laidLooks := .later }
def PortNamesUptoCardSaid : Prop := Claim7.holds Tryd.pinned (.plain (OpenSpec.upto portNamesSpec)) portNamesUptoCard

/-- THE SECOND FORM's CARD OF 'pendulumlaw14.PortCalls'. -/
def portCallsUptoCard : Claim7 := { stood := { row := portCallsUptoRow, standIns := [], harness := (true, "9cfd02a8a7e88cfe3d63f8a176a40b2d80267a021b0c95e0bf174fef261b55f7"), looks := false }, kinds := [], alts := [], laidByText := true, laidKinds := [.data, .data, .data], laidTests := true, laidLooks := .later }
def PortCallsUptoCardSaid : Prop := Claim7.holds Tryd.pinned (.plain (OpenSpec.upto portCallsSpec)) portCallsUptoCard

/-- THE SECOND FORM's CARD OF 'pendulumlaw14.PortLists'. -/
def portListsUptoCard : Claim7 := { stood := { row := portListsUptoRow, standIns := [], harness := (true, "9cfd02a8a7e88cfe3d63f8a176a40b2d80267a021b0c95e0bf174fef261b55f7"), looks := false }, kinds := [], alts := [], laidByText := true, laidKinds := [.data], laidTests := true, laidLooks := .later }
def PortListsUptoCardSaid : Prop := Claim7.holds Tryd.pinned (.plain (OpenSpec.upto portListsSpec)) portListsUptoCard

/-- THE SECOND FORM's CARD OF 'pendulumlaw14.PortUsuals'. -/
def portUsualsUptoCard : Claim7 := { stood := { row := portUsualsUptoRow, standIns := [], harness := (true, "9cfd02a8a7e88cfe3d63f8a176a40b2d80267a021b0c95e0bf174fef261b55f7"), looks := false }, kinds := [], alts := [], laidByText := true, laidKinds := [.data, .data, .data], laidTests := true, laidLooks := .later }
def PortUsualsUptoCardSaid : Prop := Claim7.holds Tryd.pinned (.plain (OpenSpec.upto portUsualsSpec)) portUsualsUptoCard
end Rows
end Go.Proofs.YtmgaibpdpcancaaDoor
