
/- What the functions of package alu answer. -/
import Derived.Test.YtedlfcmlchjjlaaU1
namespace Go.Proofs.Ytedlfcmlchjjlaa
open Go.RowKit
set_option linter.unusedSimpArgs false

end Go.Proofs.Ytedlfcmlchjjlaa
