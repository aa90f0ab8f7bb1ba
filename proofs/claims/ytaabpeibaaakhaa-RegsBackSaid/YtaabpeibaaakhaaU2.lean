
/- What the functions of package alu answer. -/
import Derived.Test.YtaabpeibaaakhaaU1
namespace Go.Proofs.Ytaabpeibaaakhaa
open Go.RowKit
set_option linter.unusedSimpArgs false

end Go.Proofs.Ytaabpeibaaakhaa
