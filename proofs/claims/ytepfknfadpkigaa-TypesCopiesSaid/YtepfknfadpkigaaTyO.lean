/- Law 11: TypesCopies, whatever is handed in. -/
import Derived.Test.YtepfknfadpkigaaTyN
namespace Go.Proofs.Ytepfknfadpkigaa
open Go.RowKit
set_option maxHeartbeats 1000000
set_option maxRecDepth 100000
set_option linter.unusedVariables false
set_option linter.unusedSimpArgs false

theorem tcopies_end (m : MaV) (pl : List Int) (vl : List Bool) (name : ByteArray) (w : World) (ho : MaOk m pl) (hp : Row w 0 m.ps encU 1 pl) (hv : Row w 0 m.vs encB 1 vl) : Calls Try.prog 4 #[m.val, .string name] w fun e w' => e = .returned (.bool true) ∧ Below w.heap.size w w' := by
  rcases Nat.lt_or_ge 1024 name.size with h | h
  · exact tcopies_long m name h w
  · exact tcopies_in m pl vl name h w ho hp hv
end Go.Proofs.Ytepfknfadpkigaa
