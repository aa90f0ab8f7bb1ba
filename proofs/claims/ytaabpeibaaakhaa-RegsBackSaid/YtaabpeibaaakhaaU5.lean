
/- What the document's own answers of chapter 5 are. -/
import Derived.Test.YtaabpeibaaakhaaU1
namespace Go.Proofs.Ytaabpeibaaakhaa
open Go.RowKit
set_option linter.unusedSimpArgs false

end Go.Proofs.Ytaabpeibaaakhaa
