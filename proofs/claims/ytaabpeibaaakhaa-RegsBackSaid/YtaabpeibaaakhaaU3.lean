
/- Parity, logic, the operators of package alu. -/
import Derived.Test.YtaabpeibaaakhaaU2
namespace Go.Proofs.Ytaabpeibaaakhaa
open Go.RowKit
set_option linter.unusedSimpArgs false

end Go.Proofs.Ytaabpeibaaakhaa
