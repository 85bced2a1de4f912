/- Package place, walked: sure, Begin, Of, next. -/
import Derived.Test.YtliebhpddjbjeaaGreatDoorPpA
import Derived.Test.YtliebhpddjbjeaaGreatDoorPlM
import Derived.Laws.ComplexArith
namespace Go.Proofs.YtliebhpddjbjeaaGreatDoor
open Go.RowKit
set_option maxHeartbeats 400000
set_option maxRecDepth 100000
set_option linter.unusedVariables false

theorem okN_iff (n : Int) : okN n = true ↔ 1 ≤ n ∧ n ≤ 1073741824 := by unfold okN; simp
theorem isP_ok (l c : Int) (h : okN l = true) (g : okN c = true) : isP l c = true := by
  have a := (okN_iff l).1 h
  have b := (okN_iff c).1 g
  exact (isP_iff l c).2 ⟨a.1, a.2, b.1, b.2⟩
theorem isP_nol (l c : Int) (h : okN l = false) : isP l c = false := by
  rw [isP_not]; intro k
  have : okN l = true := (okN_iff l).2 ⟨k.1, k.2.1⟩
  rw [h] at this; cases this
theorem isP_noc (l c : Int) (h : okN c = false) : isP l c = false := by
  rw [isP_not]; intro k
  have : okN c = true := (okN_iff c).2 k.2.2
  rw [h] at this; cases this
theorem sure_any (l c : Int) (l0 : -9223372036854775808 ≤ l) (l1 : l ≤ 9223372036854775807) (c0 : -9223372036854775808 ≤ c) (c1 : c ≤ 9223372036854775807) (w : World) :
    Calls Tryz.prog 69 #[.complex .f64 (floatOfInt .f64 l) (floatOfInt .f64 c)] w fun e w' => e = .returned (posV l c) ∧ w' = w := by
  have HL := whole_any l l0 l1
  have HC := whole_any c c0 c1
  cases h : okN l
  · have HT := Lib.hid (posV_none l c (isP_nol l c h))
    rw [h] at HL
    generalize floatOfInt .f64 l = x at *
    generalize floatOfInt .f64 c = y at *
    clear HC
    go_enter Tryz.func69, Tryz.ntmps69
    go_wp2_with fail
    refine (HL _).mono ?_
    rintro e w1 ⟨rfl, rfl⟩
    go_wp2_with fail
    go_ret
    exact ⟨by rw [HT.out]; rfl, rfl⟩
  · rw [h] at HL
    cases g : okN c
    · have HT := Lib.hid (posV_none l c (isP_noc l c g))
      rw [g] at HC
      generalize floatOfInt .f64 l = x at *
      generalize floatOfInt .f64 c = y at *
      go_enter Tryz.func69, Tryz.ntmps69
      go_wp2_with fail
      refine (HL _).mono ?_
      rintro e w1 ⟨rfl, rfl⟩
      go_wp2_with fail
      refine (HC _).mono ?_
      rintro e w1 ⟨rfl, rfl⟩
      go_wp2_with fail
      go_ret
      exact ⟨by rw [HT.out]; rfl, rfl⟩
    · have HT := Lib.hid (posV_ok l c (isP_ok l c h g))
      rw [g] at HC
      generalize floatOfInt .f64 l = x at *
      generalize floatOfInt .f64 c = y at *
      go_enter Tryz.func69, Tryz.ntmps69
      go_wp2_with fail
      refine (HL _).mono ?_
      rintro e w1 ⟨rfl, rfl⟩
      go_wp2_with fail
      refine (HC _).mono ?_
      rintro e w1 ⟨rfl, rfl⟩
      go_wp2_with fail
      go_ret
      exact ⟨by rw [HT.out]; rfl, rfl⟩
/-- Every place's value is two whole numbers' floats. -/
theorem posV_as (l c : Int) : ∃ l' c', 0 ≤ l' ∧ l' ≤ 1073741824 ∧ 0 ≤ c' ∧ c' ≤ 1073741824 ∧ posV l c = .complex .f64 (floatOfInt .f64 l') (floatOfInt .f64 c') ∧ posV l' c' = posV l c ∧ ((isP l c = true ∧ l' = l ∧ c' = c) ∨ (isP l c = false ∧ l' = 0 ∧ c' = 0)) := by
  cases h : isP l c
  · refine ⟨0, 0, by omega, by omega, by omega, by omega, ?_, ?_, .inr ⟨rfl, rfl, rfl⟩⟩
    · rw [posV_none l c h, fl_zero]; rfl
    · rw [posV_none l c h, posV_none 0 0 isP_zero]
  · obtain ⟨h1, h2, h3, h4⟩ := (isP_iff l c).1 h
    exact ⟨l, c, by omega, h2, by omega, h4, posV_ok l c h, rfl, .inl ⟨rfl, rfl, rfl⟩⟩
theorem sure_pos (l c : Int) (w : World) :
    Calls Tryz.prog 69 #[posV l c] w fun e w' => e = .returned (posV l c) ∧ w' = w := by
  obtain ⟨l', c', h1, h2, h3, h4, h5, h6, h7⟩ := posV_as l c
  have := sure_any l' c' (by omega) (by omega) (by omega) (by omega) w
  rw [h6, ← h5] at this
  exact this
theorem Of_any (l c : Int) (l0 : -9223372036854775808 ≤ l) (l1 : l ≤ 9223372036854775807) (c0 : -9223372036854775808 ≤ c) (c1 : c ≤ 9223372036854775807) (w : World) :
    Calls Tryz.prog 33 #[.int .i64 l, .int .i64 c] w fun e w' => e = .returned (posV l c) ∧ w' = w := by
  have HS := sure_any l c l0 l1 c0 c1
  go_enter Tryz.func33, Tryz.ntmps33
  go_wp2_with fail
  refine (HS _).mono ?_
  rintro e w1 ⟨rfl, rfl⟩
  go_wp2_with fail
  go_ret
  exact ⟨rfl, rfl⟩
theorem Begin_any (w : World) :
    Calls Tryz.prog 67 #[] w fun e w' => e = .returned (posV 1 1) ∧ w' = w := by
  have HT := Lib.hid (posV_ok 1 1 rfl)
  go_enter Tryz.func67, Tryz.ntmps67
  go_wp2_with fail
  go_ret
  exact ⟨by rw [HT.out]; rfl, rfl⟩
theorem fl_nat (n : Int) (h0 : 0 ≤ n) (h1 : n < 9007199254740992) : floatOfInt .f64 n = flN n.toNat := by
  rw [← fl_of_int n.toNat (by omega), Int.toNat_of_nonneg h0]
theorem add_one (n : Int) (h0 : 0 ≤ n) (h1 : n < 2147483648) : floatBits .add .f64 (floatOfInt .f64 n) 4607182418800017408 = some (floatOfInt .f64 (n + 1)) := by
  rw [fl_nat n h0 (by omega), fl_nat (n + 1) (by omega) (by omega), ← flN_one, show (n + 1).toNat = n.toNat + 1 by omega]
  exact add_fl n.toNat 1 (by omega) (by omega)
theorem add_nil (n : Int) (h0 : 0 ≤ n) (h1 : n < 2147483648) : floatBits .add .f64 (floatOfInt .f64 n) 0 = some (floatOfInt .f64 n) := by
  rw [fl_nat n h0 (by omega)]
  exact add_fl n.toNat 0 (by omega) (by omega)
theorem next_line (l c : Int) (h : isP l c = true) (w : World) :
    Calls Tryz.prog 110 #[posV l c, .int .u8 10] w fun e w' => e = .returned (posV (l + 1) 1) ∧ w' = w := by
  obtain ⟨h1, h2, h3, h4⟩ := (isP_iff l c).1 h
  have HS := sure_any (l + 1) 1 (by omega) (by omega) (by omega) (by omega)
  have hop : ∀ t w, (binOp .add t (.float .f64 (floatOfInt .f64 l)) (.float .f64 4607182418800017408)).run Tryz.prog w = .ok (.float .f64 (floatOfInt .f64 (l + 1))) w :=
    fun t w => run_float_arith w .add t .f64 _ _ _ (add_one l (by omega) (by omega))
  have e1 : floatOfInt .f64 1 = 4607182418800017408 := by rw [fl_nat 1 (by omega) (by omega)]; exact flN_one
  rw [e1] at HS
  rw [posV_ok l c h]
  generalize floatOfInt .f64 l = x at *
  generalize floatOfInt .f64 c = y at *
  generalize floatOfInt .f64 (l + 1) = z at *
  go_enter Tryz.func110, Tryz.ntmps110
  go_wp2_with fail
  refine (HS _).mono ?_
  rintro e w1 ⟨rfl, rfl⟩
  go_wp2_with fail
  go_ret
  exact ⟨rfl, rfl⟩
theorem next_col (l c : Int) (h : isP l c = true) (b : Int) (hb : (b == 10) = false) (w : World) :
    Calls Tryz.prog 110 #[posV l c, .int .u8 b] w fun e w' => e = .returned (posV l (c + 1)) ∧ w' = w := by
  obtain ⟨h1, h2, h3, h4⟩ := (isP_iff l c).1 h
  have HS := sure_any l (c + 1) (by omega) (by omega) (by omega) (by omega)
  have hs : cSumBits .add .f64 (floatOfInt .f64 l) (floatOfInt .f64 c) 0 4607182418800017408 = some (floatOfInt .f64 l, floatOfInt .f64 (c + 1)) := by
    unfold cSumBits
    rw [add_nil l (by omega) (by omega), add_one c (by omega) (by omega)]; rfl
  have hop := fun t w => run_complex_sum (P := Tryz.prog) w .add (Or.inl rfl) t .f64 _ _ _ _ _ _ hs
  rw [posV_ok l c h]
  generalize floatOfInt .f64 l = x at *
  generalize floatOfInt .f64 c = y at *
  generalize floatOfInt .f64 (c + 1) = z at *
  go_enter Tryz.func110, Tryz.ntmps110
  go_wp2_with fail
  refine (HS _).mono ?_
  rintro e w1 ⟨rfl, rfl⟩
  go_wp2_with fail
  go_ret
  exact ⟨rfl, rfl⟩
theorem next_any (l c : Int) (h : isP l c = true) (b : UInt8) (w : World) :
    Calls Tryz.prog 110 #[posV l c, .int .u8 (b.toNat : Int)] w fun e w' => e = .returned (posV (stepL l b) (stepC c b)) ∧ w' = w := by
  unfold stepL stepC
  by_cases hb : b = 10
  · subst hb
    exact next_line l c h w
  · rw [if_neg hb, if_neg hb]
    exact next_col l c h _ (by rw [byte_ten]; exact decide_eq_false hb) w
end Go.Proofs.YtliebhpddjbjeaaGreatDoor
