/- Package place, walked: sure, Begin, Of, next. -/
import Derived.Test.YtldecbaaajmmcaaPpA
import Derived.Test.YtldecbaaajmmcaaPlM
import Derived.Laws.ComplexArith
namespace Go.Proofs.Ytldecbaaajmmcaa
open Go.RowKit
set_option maxHeartbeats 400000
set_option maxRecDepth 100000
set_option linter.unusedVariables false

theorem okN_iff (n : Int) : okN n = true ↔ 1 ≤ n ∧ n ≤ 1073741824 := by unfold okN; simp
theorem isP_ok (l c : Int) (h : okN l = true) (g : okN c = true) : isP l c = true := by
  have a := (okN_iff l).1 h
  have b := (okN_iff c).1 g
  exact (isP_iff l c).2 ⟨a.1, a.2, b.1, b.2⟩
theorem isP_nol (l c : Int) (h : okN l = false) : isP l c = false := by
  rw [isP_not]; intro k
  have : okN l = true := (okN_iff l).2 ⟨k.1, k.2.1⟩
  rw [h] at this; cases this
theorem isP_noc (l c : Int) (h : okN c = false) : isP l c = false := by
  rw [isP_not]; intro k
  have : okN c = true := (okN_iff c).2 k.2.2
  rw [h] at this; cases this
/-- Every place's value is two whole numbers' floats. -/
theorem posV_as (l c : Int) : ∃ l' c', 0 ≤ l' ∧ l' ≤ 1073741824 ∧ 0 ≤ c' ∧ c' ≤ 1073741824 ∧ posV l c = .complex .f64 (floatOfInt .f64 l') (floatOfInt .f64 c') ∧ posV l' c' = posV l c ∧ ((isP l c = true ∧ l' = l ∧ c' = c) ∨ (isP l c = false ∧ l' = 0 ∧ c' = 0)) := by
  cases h : isP l c
  · refine ⟨0, 0, by omega, by omega, by omega, by omega, ?_, ?_, .inr ⟨rfl, rfl, rfl⟩⟩
    · rw [posV_none l c h, fl_zero]; rfl
    · rw [posV_none l c h, posV_none 0 0 isP_zero]
  · obtain ⟨h1, h2, h3, h4⟩ := (isP_iff l c).1 h
    exact ⟨l, c, by omega, h2, by omega, h4, posV_ok l c h, rfl, .inl ⟨rfl, rfl, rfl⟩⟩
theorem fl_nat (n : Int) (h0 : 0 ≤ n) (h1 : n < 9007199254740992) : floatOfInt .f64 n = flN n.toNat := by
  rw [← fl_of_int n.toNat (by omega), Int.toNat_of_nonneg h0]
theorem add_one (n : Int) (h0 : 0 ≤ n) (h1 : n < 2147483648) : floatBits .add .f64 (floatOfInt .f64 n) 4607182418800017408 = some (floatOfInt .f64 (n + 1)) := by
  rw [fl_nat n h0 (by omega), fl_nat (n + 1) (by omega) (by omega), ← flN_one, show (n + 1).toNat = n.toNat + 1 by omega]
  exact add_fl n.toNat 1 (by omega) (by omega)
theorem add_nil (n : Int) (h0 : 0 ≤ n) (h1 : n < 2147483648) : floatBits .add .f64 (floatOfInt .f64 n) 0 = some (floatOfInt .f64 n) := by
  rw [fl_nat n h0 (by omega)]
  exact add_fl n.toNat 0 (by omega) (by omega)
end Go.Proofs.Ytldecbaaajmmcaa
