/- The document's answers of layer 3, walked: Is, Pos. -/
import Derived.Test.YtgilhfojfmgjbaaDoorProg
import Derived.Test.YtgilhfojfmgjbaaDoorPlS
import Derived.WalkKit
import Derived.WalkLawsBesides
import Derived.Deep.QuietTactic
import Derived.BigQuiet
import Derived.Lib.Hide
namespace Go.Proofs.YtgilhfojfmgjbaaDoor
open Go.RowKit
set_option maxHeartbeats 400000
set_option maxRecDepth 100000
set_option linter.unusedVariables false

theorem bt {a b c : World} (h1 : Below a.heap.size a b) (h2 : Below b.heap.size b c) : Below a.heap.size a c := h1.trans (h2.mono h1.size)
theorem below_new (w : World) (o : Obj) : Below w.heap.size w (w.alloc o) := (Below.refl _ _).alloc (Nat.le_refl _) o

/-- A place as the document's answer has it. -/
def plV (l c : Int) : Value := .agg #[.int .i64 l, .int .i64 c]

theorem Is_any (l c : Int) (w : World) :
    Calls Tryd.prog 13 #[.agg #[.int .i64 l, .int .i64 c]] w fun e w' => e = .returned (.bool (isP l c)) ∧ Below w.heap.size w w' := by
  have hc : l < 1 ∨ (1 ≤ l ∧ 1073741824 < l) ∨ (1 ≤ l ∧ l ≤ 1073741824 ∧ c < 1) ∨ (1 ≤ l ∧ l ≤ 1073741824 ∧ 1 ≤ c ∧ 1073741824 < c) ∨ (1 ≤ l ∧ l ≤ 1073741824 ∧ 1 ≤ c ∧ c ≤ 1073741824) := by omega
  rcases hc with h | ⟨h, g⟩ | ⟨h, g, h1⟩ | ⟨h, g, h1, g1⟩ | ⟨h, g, h1, g1⟩
  all_goals
    go_enter Tryd.func13, Tryd.ntmps13
    go_wp2_with fail
    go_ret
    exact ⟨by first | (rw [(isP_iff l c).2 ⟨h, g, h1, g1⟩]; simp) | (rw [(isP_not l c).2 (by omega)]; first | rfl | simp; omega), below_new _ _⟩

theorem posV_ok (l c : Int) (h : isP l c = true) : posV l c = .complex .f64 (floatOfInt .f64 l) (floatOfInt .f64 c) := by
  obtain ⟨h1, h2, h3, h4⟩ := (isP_iff l c).1 h
  unfold posV fpart
  rw [h, if_pos rfl, if_pos rfl, ← fl_of_int _ (by omega), ← fl_of_int _ (by omega), Int.toNat_of_nonneg (by omega), Int.toNat_of_nonneg (by omega)]
theorem posV_none (l c : Int) (h : isP l c = false) : posV l c = .complex .f64 0 0 := by
  unfold posV fpart; rw [h]; rfl

theorem Pos_any (l c : Int) (w : World) :
    Calls Tryd.prog 12 #[.agg #[.int .i64 l, .int .i64 c]] w fun e w' => e = .returned (posV l c) ∧ Below w.heap.size w w' := by
  cases hp : isP l c
  · have HT := Lib.hid (posV_none l c hp)
    go_enter Tryd.func12, Tryd.ntmps12
    go_wp2_with fail
    refine (Is_any l c _).mono ?_
    rintro e w1 ⟨rfl, hb1⟩
    rw [hp]
    go_wp2_with fail
    go_ret
    exact ⟨by rw [HT.out]; rfl, bt (below_new _ _) hb1⟩
  · have HT := Lib.hid (posV_ok l c hp)
    go_enter Tryd.func12, Tryd.ntmps12
    go_wp2_with fail
    refine (Is_any l c _).mono ?_
    rintro e w1 ⟨rfl, hb1⟩
    rw [hp]
    have hc0 : w1.cell? ⟨w.heap.size, 0, none⟩ = some (.int .i64 l) := (hb1.cell (by simp)).trans (by rw [World.cell?_alloc_at _ _ _ _ rfl]; rfl)
    have hc1 : w1.cell? ⟨w.heap.size, 1, none⟩ = some (.int .i64 c) := (hb1.cell (by simp)).trans (by rw [World.cell?_alloc_at _ _ _ _ rfl]; rfl)
    go_wp2_with fail
    go_ret
    exact ⟨by rw [HT.out]; rfl, bt (below_new _ _) hb1⟩
end Go.Proofs.YtgilhfojfmgjbaaDoor
