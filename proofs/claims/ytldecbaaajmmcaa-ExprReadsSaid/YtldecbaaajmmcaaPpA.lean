/- Package place, walked: whole, sure. -/
import Derived.Test.YtldecbaaajmmcaaPlZ
import Derived.Test.YtldecbaaajmmcaaFlQ
import Derived.Laws.FloatArith
import Derived.Laws.Cover2
import Derived.Laws.Cover3
namespace Go.Proofs.Ytldecbaaajmmcaa
open Go.RowKit
set_option maxHeartbeats 400000
set_option maxRecDepth 100000
set_option linter.unusedVariables false

theorem flN_one : flN 1 = 4607182418800017408 := by kernel_rfl
theorem flN_most : flN 1073741824 = 4742290407621132288 := by kernel_rfl
theorem run_trunc {P : Program} (n : Nat) (h : n < 2 ^ 53) (w : World) :
    (Extern.MathFloor.toIntegral "math.archTrunc" .zero #[.float .f64 (flN n)]).run P w = .ok (.float .f64 (flN n)) w := by
  rw [trunc_fl n h]; rfl
/-- May it be a line or a column? -/
def okN (n : Int) : Bool := decide (1 ≤ n) && decide (n ≤ 1073741824)
end Go.Proofs.Ytldecbaaajmmcaa
