/- Package place, walked: Line, Column. -/
import Derived.Test.YtbfclibjnanlgaaGreatDoorPpC
namespace Go.Proofs.YtbfclibjnanlgaaGreatDoor
open Go.RowKit
set_option maxHeartbeats 400000
set_option maxRecDepth 100000
set_option linter.unusedVariables false

theorem Line_any (l c : Int) (w : World) :
    Calls Tryz.prog 58 #[posV l c] w fun e w' => e = .returned (.int .i64 (lnOf l c)) ∧ w' = w := by
  have HS := sure_pos l c
  obtain ⟨l', c', a1, a2, a3, a4, a5, _, a7⟩ := posV_as l c
  have hl : l' = lnOf l c := by unfold lnOf; rcases a7 with ⟨ha, rfl, rfl⟩ | ⟨ha, rfl, rfl⟩ <;> rw [ha] <;> rfl
  have hop : ∀ w, (convert 50 3 (.float .f64 (floatOfInt .f64 l'))).run Tryz.prog w = .ok (.int .i64 l') w := fun w =>
    run_convert_float_int (P := Tryz.prog) w 50 3 .f64 .i64 _ l' (by kernel_rfl) Tryz.underlying3 (by
      rw [fl_nat l' a1 (by omega)]
      have := to_int_fl l'.toNat (by omega) (by omega)
      rw [Int.toNat_of_nonneg a1] at this
      exact this)
  rw [← hl]
  rw [a5] at HS ⊢
  clear hl a7 a5
  generalize floatOfInt .f64 l' = x at *
  generalize floatOfInt .f64 c' = y at *
  go_enter Tryz.func58, Tryz.ntmps58
  go_wp2_with fail
  refine (HS _).mono ?_
  rintro e w1 ⟨rfl, rfl⟩
  go_wp2_with fail
  go_ret
  exact ⟨rfl, rfl⟩
theorem Column_any (l c : Int) (w : World) :
    Calls Tryz.prog 59 #[posV l c] w fun e w' => e = .returned (.int .i64 (coOf l c)) ∧ w' = w := by
  have HS := sure_pos l c
  obtain ⟨l', c', a1, a2, a3, a4, a5, _, a7⟩ := posV_as l c
  have hl : c' = coOf l c := by unfold coOf; rcases a7 with ⟨ha, rfl, rfl⟩ | ⟨ha, rfl, rfl⟩ <;> rw [ha] <;> rfl
  have hop : ∀ w, (convert 50 3 (.float .f64 (floatOfInt .f64 c'))).run Tryz.prog w = .ok (.int .i64 c') w := fun w =>
    run_convert_float_int (P := Tryz.prog) w 50 3 .f64 .i64 _ c' (by kernel_rfl) Tryz.underlying3 (by
      rw [fl_nat c' a3 (by omega)]
      have := to_int_fl c'.toNat (by omega) (by omega)
      rw [Int.toNat_of_nonneg a3] at this
      exact this)
  rw [← hl]
  rw [a5] at HS ⊢
  clear hl a7 a5
  generalize floatOfInt .f64 l' = x at *
  generalize floatOfInt .f64 c' = y at *
  go_enter Tryz.func59, Tryz.ntmps59
  go_wp2_with fail
  refine (HS _).mono ?_
  rintro e w1 ⟨rfl, rfl⟩
  go_wp2_with fail
  go_ret
  exact ⟨rfl, rfl⟩
end Go.Proofs.YtbfclibjnanlgaaGreatDoor
