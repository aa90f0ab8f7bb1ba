
/- Parity, logic, the operators of package alu. -/
import Derived.Test.YtedlfcmlchjjlaaU2
namespace Go.Proofs.Ytedlfcmlchjjlaa
open Go.RowKit
set_option linter.unusedSimpArgs false

end Go.Proofs.Ytedlfcmlchjjlaa
