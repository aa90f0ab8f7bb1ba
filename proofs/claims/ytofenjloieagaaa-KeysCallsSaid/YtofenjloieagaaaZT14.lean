/-  -/
import Derived.Test.YtofenjloieagaaaZT7
import Derived.Test.YtofenjloieagaaaZT9
import Derived.Test.YtofenjloieagaaaZT13
namespace Go.Proofs.Ytofenjloieagaaa
open Go.RowKit
set_option linter.unusedSimpArgs false
set_option linter.unusedVariables false
set_option maxRecDepth 100000

end Go.Proofs.Ytofenjloieagaaa
