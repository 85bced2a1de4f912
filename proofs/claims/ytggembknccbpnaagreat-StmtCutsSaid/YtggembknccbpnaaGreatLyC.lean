/- The document's answers of layer 4, walked: Name, comment. -/
import Derived.Test.YtggembknccbpnaaGreatLyB
namespace Go.Proofs.YtggembknccbpnaaGreat
open Go.RowKit
set_option maxHeartbeats 1000000
set_option maxRecDepth 100000
set_option linter.unusedVariables false


end Go.Proofs.YtggembknccbpnaaGreat
