/- The document's answers of layer 3, walked: Is, Pos. -/
import Derived.Test.YtbfclibjnanlgaaGreatDoorPlZ
namespace Go.Proofs.YtbfclibjnanlgaaGreatDoor
open Go.RowKit
set_option maxHeartbeats 400000
set_option maxRecDepth 100000
set_option linter.unusedVariables false

/-- A place as the document's answer has it. -/
def plV (l c : Int) : Value := .agg #[.int .i64 l, .int .i64 c]
end Go.Proofs.YtbfclibjnanlgaaGreatDoor
