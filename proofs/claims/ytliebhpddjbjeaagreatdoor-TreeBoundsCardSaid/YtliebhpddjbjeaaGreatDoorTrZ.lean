/- tree.Text: what it writes. -/
import Derived.Test.YtliebhpddjbjeaaGreatDoorTrY
import Derived.Test.YtliebhpddjbjeaaGreatDoorTwBt
namespace Go.Proofs.YtliebhpddjbjeaaGreatDoor
open Go.RowKit
set_option maxHeartbeats 1000000
set_option linter.unusedVariables false

mutual
theorem run_tx : ∀ (t : Tr) (s : List UInt8), runTt txEn txLv t s = s ++ (sepT s ++ textT t)
  | .node p d ks, s => by
    rw [runTt, run_txL ks _ (by simp [txEn, headT])]
    simp [txEn, txLv, textT, Tr.d]
theorem run_txL : ∀ (l : List Tr) (s : List UInt8), s ≠ [] → runLt txEn txLv l s = s ++ textTL l
  | [], s, _ => by simp [runLt, textTL]
  | t :: r, s, h => by
    have h1 := run_tx t s
    rw [runLt, run_txL r _ (by rw [h1]; simp [h]), h1]
    simp [textTL, sepT, h]
end
end Go.Proofs.YtliebhpddjbjeaaGreatDoor
