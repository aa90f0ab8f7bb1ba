
/- What came in, as the walks take it. -/
import Derived.Test.YtmgaibpdpcancaaDoorB
import Derived.ProofKit
import Derived.OpenShut
namespace Go.Proofs.YtmgaibpdpcancaaDoor
open Go.RowKit Go.ChangeShapes Go.WideShapes Go.ChangeAt

theorem own : ownKnob Tryd.prog.godebug = none := by kernel_rfl
theorem laidOut : laidOutB Tryd.prog = true := by kernel_rfl

end Go.Proofs.YtmgaibpdpcancaaDoor
