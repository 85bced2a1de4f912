/- Package place, walked: whole, sure. -/
import Derived.Test.YtbfclibjnanlgaaGreatDoorPlZ
import Derived.Test.YtbfclibjnanlgaaGreatDoorFlQ
import Derived.Laws.FloatArith
import Derived.Laws.Cover2
import Derived.Laws.Cover3
namespace Go.Proofs.YtbfclibjnanlgaaGreatDoor
open Go.RowKit
set_option maxHeartbeats 400000
set_option maxRecDepth 100000
set_option linter.unusedVariables false

theorem flN_one : flN 1 = 4607182418800017408 := by kernel_rfl
theorem flN_most : flN 1073741824 = 4742290407621132288 := by kernel_rfl
theorem run_trunc {P : Program} (n : Nat) (h : n < 2 ^ 53) (w : World) :
    (Extern.MathFloor.toIntegral "math.archTrunc" .zero #[.float .f64 (flN n)]).run P w = .ok (.float .f64 (flN n)) w := by
  rw [trunc_fl n h]; rfl
theorem Trunc_any (n : Nat) (h : n < 2 ^ 53) (w : World) :
    Calls Tryz.prog 51 #[.float .f64 (flN n)] w fun e w' => e = .returned (.float .f64 (flN n)) ∧ w' = w := by
  go_enter Tryz.func51, Tryz.ntmps51
  go_wp2_with fail
  rw [run_callFunc_extern Tryz.func62 (by kernel_rfl) (by kernel_rfl) (by kernel_rfl) (e := Extern.MathFloor.toIntegral "math.archTrunc" .zero) (by kernel_rfl), run_trunc n h]
  simp only [Result.andThen]
  rw [Oper.upon_value]
  go_wp2_with fail
  go_ret
  exact ⟨rfl, rfl⟩
/-- May it be a line or a column? -/
def okN (n : Int) : Bool := decide (1 ≤ n) && decide (n ≤ 1073741824)
theorem whole_low (n : Int) (h : n < 1) (hb : -9223372036854775808 ≤ n) (w : World) :
    Calls Tryz.prog 43 #[.float .f64 (floatOfInt .f64 n)] w fun e w' => e = .returned (.bool false) ∧ w' = w := by
  have h1 : FloatKind.f64.format.order (floatOfInt .f64 n) 4607182418800017408 = some .lt := by
    rw [← flN_one]; exact order_low n h hb 1 (by omega) (by omega)
  generalize floatOfInt .f64 n = x at h1 ⊢
  go_enter Tryz.func43, Tryz.ntmps43
  go_wp2_with fail
  go_ret
  exact ⟨rfl, rfl⟩
theorem whole_high (n : Int) (h : 1073741824 < n) (hb : n ≤ 9223372036854775807) (w : World) :
    Calls Tryz.prog 43 #[.float .f64 (floatOfInt .f64 n)] w fun e w' => e = .returned (.bool false) ∧ w' = w := by
  have h1 : FloatKind.f64.format.order (floatOfInt .f64 n) 4607182418800017408 = some .gt := by
    rw [← flN_one]; exact order_high n 1 (by omega) hb (by omega)
  have h2 : FloatKind.f64.format.order (floatOfInt .f64 n) 4742290407621132288 = some .gt := by
    rw [← flN_most]; exact order_high n 1073741824 (by omega) hb (by omega)
  generalize floatOfInt .f64 n = x at h1 h2 ⊢
  go_enter Tryz.func43, Tryz.ntmps43
  go_wp2_with fail
  go_ret
  exact ⟨rfl, rfl⟩
theorem whole_in (n : Int) (h : 1 ≤ n) (hb : n ≤ 1073741824) (w : World) :
    Calls Tryz.prog 43 #[.float .f64 (floatOfInt .f64 n)] w fun e w' => e = .returned (.bool true) ∧ w' = w := by
  have e1 : floatOfInt .f64 n = flN n.toNat := by rw [← fl_of_int n.toNat (by omega), Int.toNat_of_nonneg (by omega)]
  have h1 : (FloatKind.f64.format.order (flN n.toNat) 4607182418800017408 == some .gt || FloatKind.f64.format.order (flN n.toNat) 4607182418800017408 == some .eq) = true := by
    rw [← flN_one, show FloatKind.f64.format.order (flN n.toNat) (flN 1) = _ from order_fl n.toNat 1 (by omega) (by omega)]
    by_cases hn : n = 1
    · subst hn; rfl
    · rw [Nat.compare_eq_gt.2 (by omega)]; rfl
  have h2 : (FloatKind.f64.format.order (flN n.toNat) 4742290407621132288 == some .lt || FloatKind.f64.format.order (flN n.toNat) 4742290407621132288 == some .eq) = true := by
    rw [← flN_most, show FloatKind.f64.format.order (flN n.toNat) (flN 1073741824) = _ from order_fl n.toNat 1073741824 (by omega) (by omega)]
    by_cases hn : n = 1073741824
    · subst hn; rfl
    · rw [Nat.compare_eq_lt.2 (by omega)]; rfl
  have h3 : FloatKind.f64.format.order (flN n.toNat) (flN n.toNat) = some .eq := by
    rw [show FloatKind.f64.format.order (flN n.toNat) (flN n.toNat) = _ from order_fl n.toNat n.toNat (by omega) (by omega), Nat.compare_eq_eq.2 rfl]
  rw [e1]
  have HT := Trunc_any n.toNat (by omega)
  generalize flN n.toNat = x at h1 h2 h3 HT ⊢
  go_enter Tryz.func43, Tryz.ntmps43
  go_wp2_with fail
  refine (HT _).mono ?_
  rintro e w1 ⟨rfl, rfl⟩
  go_wp2_with fail
  go_ret
  exact ⟨rfl, rfl⟩
theorem whole_any (n : Int) (h0 : -9223372036854775808 ≤ n) (h1 : n ≤ 9223372036854775807) (w : World) :
    Calls Tryz.prog 43 #[.float .f64 (floatOfInt .f64 n)] w fun e w' => e = .returned (.bool (okN n)) ∧ w' = w := by
  by_cases a : n < 1
  · rw [show okN n = false by unfold okN; simp; omega]; exact whole_low n a h0 w
  · by_cases b : 1073741824 < n
    · rw [show okN n = false by unfold okN; simp; omega]; exact whole_high n b h1 w
    · rw [show okN n = true by unfold okN; simp; omega]; exact whole_in n (by omega) (by omega) w
end Go.Proofs.YtbfclibjnanlgaaGreatDoor
