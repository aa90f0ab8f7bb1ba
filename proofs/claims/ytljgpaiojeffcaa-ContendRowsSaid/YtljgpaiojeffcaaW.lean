
/- What came in, as the walks take it. -/
import Derived.Test.YtljgpaiojeffcaaB
import Derived.ProofKit
import Derived.OpenShut
namespace Go.Proofs.Ytljgpaiojeffcaa
open Go.RowKit Go.ChangeShapes Go.WideShapes Go.ChangeAt

theorem own : ownKnob Try.prog.godebug = none := by kernel_rfl
theorem laidOut : laidOutB Try.prog = true := by kernel_rfl

end Go.Proofs.Ytljgpaiojeffcaa
