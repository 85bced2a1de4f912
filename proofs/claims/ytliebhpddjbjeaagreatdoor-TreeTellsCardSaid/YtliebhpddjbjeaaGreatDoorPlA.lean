/- The document's answers of layer 3, walked: Is, Pos. -/
import Derived.Test.YtliebhpddjbjeaaGreatDoorPlZ
namespace Go.Proofs.YtliebhpddjbjeaaGreatDoor
open Go.RowKit
set_option maxHeartbeats 400000
set_option maxRecDepth 100000
set_option linter.unusedVariables false

/-- A place as the document's answer has it. -/
def plV (l c : Int) : Value := .agg #[.int .i64 l, .int .i64 c]
theorem Is_any (l c : Int) (w : World) :
    Calls Tryz.prog 70 #[.agg #[.int .i64 l, .int .i64 c]] w fun e w' => e = .returned (.bool (isP l c)) ∧ Below w.heap.size w w' := by
  have hc : l < 1 ∨ (1 ≤ l ∧ 1073741824 < l) ∨ (1 ≤ l ∧ l ≤ 1073741824 ∧ c < 1) ∨ (1 ≤ l ∧ l ≤ 1073741824 ∧ 1 ≤ c ∧ 1073741824 < c) ∨ (1 ≤ l ∧ l ≤ 1073741824 ∧ 1 ≤ c ∧ c ≤ 1073741824) := by omega
  rcases hc with h | ⟨h, g⟩ | ⟨h, g, h1⟩ | ⟨h, g, h1, g1⟩ | ⟨h, g, h1, g1⟩
  all_goals
    go_enter Tryz.func70, Tryz.ntmps70
    go_wp2_with fail
    go_ret
    exact ⟨by first | (rw [(isP_iff l c).2 ⟨h, g, h1, g1⟩]; simp) | (rw [(isP_not l c).2 (by omega)]; first | rfl | simp; omega), below_new _ _⟩
theorem Pos_any (l c : Int) (w : World) :
    Calls Tryz.prog 34 #[.agg #[.int .i64 l, .int .i64 c]] w fun e w' => e = .returned (posV l c) ∧ Below w.heap.size w w' := by
  cases hp : isP l c
  · have HT := Lib.hid (posV_none l c hp)
    go_enter Tryz.func34, Tryz.ntmps34
    go_wp2_with fail
    refine (Is_any l c _).mono ?_
    rintro e w1 ⟨rfl, hb1⟩
    rw [hp]
    go_wp2_with fail
    go_ret
    exact ⟨by rw [HT.out]; rfl, bt (below_new _ _) hb1⟩
  · have HT := Lib.hid (posV_ok l c hp)
    go_enter Tryz.func34, Tryz.ntmps34
    go_wp2_with fail
    refine (Is_any l c _).mono ?_
    rintro e w1 ⟨rfl, hb1⟩
    rw [hp]
    have hc0 : w1.cell? ⟨w.heap.size, 0, none⟩ = some (.int .i64 l) := (hb1.cell (by simp)).trans (by rw [World.cell?_alloc_at _ _ _ _ rfl]; rfl)
    have hc1 : w1.cell? ⟨w.heap.size, 1, none⟩ = some (.int .i64 c) := (hb1.cell (by simp)).trans (by rw [World.cell?_alloc_at _ _ _ _ rfl]; rfl)
    go_wp2_with fail
    go_ret
    exact ⟨by rw [HT.out]; rfl, bt (below_new _ _) hb1⟩
end Go.Proofs.YtliebhpddjbjeaaGreatDoor
