
/- What the document's own answers of chapter 5 are. -/
import Derived.Test.YtedlfcmlchjjlaaU1
namespace Go.Proofs.Ytedlfcmlchjjlaa
open Go.RowKit
set_option linter.unusedSimpArgs false

end Go.Proofs.Ytedlfcmlchjjlaa
