/- The document's answers of layer 4, walked: Name, comment. -/
import Derived.Test.YtldecbaaajmmcaaLyB
namespace Go.Proofs.Ytldecbaaajmmcaa
open Go.RowKit
set_option maxHeartbeats 1000000
set_option maxRecDepth 100000
set_option linter.unusedVariables false


end Go.Proofs.Ytldecbaaajmmcaa
