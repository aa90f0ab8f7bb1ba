/-
  DERIVED. GIVEN WITH THE SEED: THE PROGRAM's TIES (one call each: nine closed facts by the kernel) AND EACH ROW's TIE, after the 31st guide's Derived/Test/Toyas{Tie, Card}.lean. No idea stands in it: it is a product of the set-up. Laid BY PROGRAM, IN A SANDBOX (cutbox-door.mjs). By AI agents, Wed Nov 11 2026. No macro, syntax, notation, axiom, sorry.
-/
import Derived.Test.YtmgaibpdpcancaaDoorRows
import Derived.LaidByTextLater
import Derived.SevenTiedAt
import Derived.LaidSub
import Derived.LaidOnce
namespace Go.Proofs.YtmgaibpdpcancaaDoor
open Go
set_option maxRecDepth 100000
theorem seatTie1 : Tryd.prog.laidByTextLater [("pendulum/port.names", Rows.laid_pendulum_port_names), ("pendulum/port.usual", Rows.laid_pendulum_port_usual), ("pendulum/port.rules", Rows.laid_pendulum_port_rules)] [.data, .data, .data] true :=
  Program.laidByTextLater_by_one 31 8 36 (by kernel_rfl) (by kernel_rfl) (by kernel_rfl) (by kernel_rfl) (by kernel_rfl) (by kernel_rfl) (fun _ _ => by kernel_rfl)
theorem noOwnUnsafe : Tryd.pinned.checked.prog.headLifts.contains "ownunsafe" = false := by kernel_rfl
theorem tie : Tryd.prog.laidByTextLater [("pendulum/port.names", Rows.laid_pendulum_port_names), ("pendulum/port.usual", Rows.laid_pendulum_port_usual), ("pendulum/port.rules", Rows.laid_pendulum_port_rules)] [.data, .data, .data] true :=
  Program.laidByTextLater.sub seatTie1 ["pendulum/port.names", "pendulum/port.usual", "pendulum/port.rules"] (by kernel_rfl) (by kernel_rfl)
theorem portNames_row_tie : Rows.portNamesRow.laidByTextAt .later Tryd.pinned [.data, .data, .data] true :=
  OpenClaim.laidByTextAt_later rfl rfl tie noOwnUnsafe
theorem portCalls_row_tie : Rows.portCallsRow.laidByTextAt .later Tryd.pinned [.data, .data, .data] true :=
  OpenClaim.laidByTextAt_later rfl rfl tie noOwnUnsafe
theorem portUsuals_row_tie : Rows.portUsualsRow.laidByTextAt .later Tryd.pinned [.data, .data, .data] true :=
  OpenClaim.laidByTextAt_later rfl rfl tie noOwnUnsafe
theorem tie2 : Tryd.prog.laidByTextLater [("pendulum/port.rules", Rows.laid_pendulum_port_rules)] [.data] true :=
  Program.laidByTextLater.sub seatTie1 ["pendulum/port.rules"] (by kernel_rfl) (by kernel_rfl)
theorem portLists_row_tie : Rows.portListsRow.laidByTextAt .later Tryd.pinned [.data] true :=
  OpenClaim.laidByTextAt_later rfl rfl tie2 noOwnUnsafe
theorem portNamesUpto_row_tie : Rows.portNamesUptoRow.laidByTextAt .later Tryd.pinned [.data, .data, .data] true :=
  OpenClaim.laidByTextAt_later rfl rfl tie noOwnUnsafe
theorem portCallsUpto_row_tie : Rows.portCallsUptoRow.laidByTextAt .later Tryd.pinned [.data, .data, .data] true :=
  OpenClaim.laidByTextAt_later rfl rfl tie noOwnUnsafe
theorem portListsUpto_row_tie : Rows.portListsUptoRow.laidByTextAt .later Tryd.pinned [.data] true :=
  OpenClaim.laidByTextAt_later rfl rfl tie2 noOwnUnsafe
theorem portUsualsUpto_row_tie : Rows.portUsualsUptoRow.laidByTextAt .later Tryd.pinned [.data, .data, .data] true :=
  OpenClaim.laidByTextAt_later rfl rfl tie noOwnUnsafe
end Go.Proofs.YtmgaibpdpcancaaDoor
