/- Several texts in one. -/
import Derived.Test.YtbfclibjnanlgaaGreatDoorReC
import Derived.Test.YtbfclibjnanlgaaGreatDoorPlD
import Derived.Test.YtbfclibjnanlgaaGreatDoorTrJ
import Derived.Test.YtbfclibjnanlgaaGreatDoorPlA
import Derived.Deep.RegionHeld3
/- The document's Count and Deep of layer 5, walked. -/
namespace Go.Proofs.YtbfclibjnanlgaaGreatDoor
open Go.RowKit
set_option maxHeartbeats 4000000
set_option maxRecDepth 100000
set_option linter.unusedVariables false
set_option linter.unusedSimpArgs false


end Go.Proofs.YtbfclibjnanlgaaGreatDoor
