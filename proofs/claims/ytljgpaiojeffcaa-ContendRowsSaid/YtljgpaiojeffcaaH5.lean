
/- The reference's Pulses, Next. -/
import Derived.Test.YtljgpaiojeffcaaH4
namespace Go.Proofs.Ytljgpaiojeffcaa
open Go.RowKit
set_option linter.unusedSimpArgs false
set_option linter.unusedVariables false
set_option maxRecDepth 100000

end Go.Proofs.Ytljgpaiojeffcaa
