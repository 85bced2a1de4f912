/- WordAsks at any two words. -/
import Derived.Test.YtgghdllbegkioaaDoorWdI
namespace Go.Proofs.YtgghdllbegkioaaDoor
open Go.RowKit

theorem asks_any (a b : Int) (a0 : 0 ≤ a) (a1 : a ≤ 65535) (b0 : 0 ≤ b) (b1 : b ≤ 65535) (w : World) (htab : Lib.TabIs Tryd.prog w "internal/strconv.uint64pow10" .u64 Lib.pow10Tab) :
    Calls Tryd.prog 6 #[.int .u16 a, .int .u16 b] w fun e w' => e = .returned (.bool true) ∧ Below w.heap.size w w' := by
  by_cases ha : a < 32768
  · by_cases hb : b < 32768
    · have h : a = b ∨ a < b ∨ b < a := by omega
      rcases h with h | h | h
      · exact asks_eqlo a b a0 a1 b0 b1 h ha w htab
      · exact asks_ltlo a b a0 a1 b0 b1 h hb w htab
      · exact asks_gtlo a b a0 a1 b0 b1 h ha w htab
    · by_cases h : a - b + 65536 ≤ 32767
      · exact asks_abin a b a0 a1 b0 b1 ha (by omega) h w htab
      · exact asks_about a b a0 a1 b0 b1 ha (by omega) (by omega) w htab
  · by_cases hb : b < 32768
    · by_cases h : -32768 ≤ a - 65536 - b
      · exact asks_bain a b a0 a1 b0 b1 hb (by omega) h w htab
      · exact asks_baout a b a0 a1 b0 b1 hb (by omega) (by omega) w htab
    · have h : a = b ∨ a < b ∨ b < a := by omega
      rcases h with h | h | h
      · exact asks_eqhi a b a0 a1 b0 b1 h (by omega) w htab
      · exact asks_lthi a b a0 a1 b0 b1 h (by omega) w htab
      · exact asks_gthi a b a0 a1 b0 b1 h (by omega) w htab
end Go.Proofs.YtgghdllbegkioaaDoor
