/- The document's own Does, walked. -/
import Derived.Test.YtgghdllbegkioaaDoorWdS
namespace Go.Proofs.YtgghdllbegkioaaDoor
open Go.RowKit
set_option maxHeartbeats 4000000
set_option maxRecDepth 100000
set_option linter.unusedVariables false

/-- A division's answer: TrapZero by 0. -/
def divL (y : Int) (p : Int × Int) : Int × Int := if y = 0 then (0, 4) else p
theorem divL_zero (p : Int × Int) : divL 0 p = (0, 4) := by unfold divL; rw [if_pos rfl]
theorem divL_else (y : Int) (p : Int × Int) (h : y ≠ 0) : divL y p = p := by unfold divL; rw [if_neg h]
theorem divL_def (y : Int) (p : Int × Int) : divL y p = if y = 0 then (0, 4) else p := rfl

theorem num_1 (x y lo hi : Int) (x0 : -65536 ≤ x) (x1 : x ≤ 65536) (y0 : -65536 ≤ y) (y1 : y ≤ 65536) (hlo : -32768 ≤ lo) (hhi : hi ≤ 65535) (w : World) :
    Calls Tryd.prog 24 #[.int .u8 1, .int .i64 x, .int .i64 y, .int .i64 lo, .int .i64 hi] w (Ret (fitL (x + y) lo hi) w) := by
  go_enter Tryd.func24, Tryd.ntmps24
  go_wp2_with fail
  refine (fits_any _ lo hi (by omega) (by omega) hlo hhi _).mono ?_
  rintro e w1 ⟨rfl, rfl⟩
  go_wp2_with fail
  go_ret2
  exact ⟨rfl, rfl⟩

theorem num_2 (x y lo hi : Int) (x0 : -65536 ≤ x) (x1 : x ≤ 65536) (y0 : -65536 ≤ y) (y1 : y ≤ 65536) (hlo : -32768 ≤ lo) (hhi : hi ≤ 65535) (w : World) :
    Calls Tryd.prog 24 #[.int .u8 2, .int .i64 x, .int .i64 y, .int .i64 lo, .int .i64 hi] w (Ret (fitL (x - y) lo hi) w) := by
  go_enter Tryd.func24, Tryd.ntmps24
  go_wp2_with fail
  refine (fits_any _ lo hi (by omega) (by omega) hlo hhi _).mono ?_
  rintro e w1 ⟨rfl, rfl⟩
  go_wp2_with fail
  go_ret2
  exact ⟨rfl, rfl⟩

theorem mul_bd3 (x y : Int) (hx0 : -65536 ≤ x) (hx1 : x ≤ 65536) (hy0 : -65536 ≤ y) (hy1 : y ≤ 65536) : -4294967296 ≤ x * y ∧ x * y ≤ 4294967296 := by
  have hx : x.natAbs ≤ 65536 := by omega
  have hy : y.natAbs ≤ 65536 := by omega
  have h := Nat.mul_le_mul hx hy
  rw [← Int.natAbs_mul] at h
  omega

theorem num_3 (x y lo hi : Int) (x0 : -65536 ≤ x) (x1 : x ≤ 65536) (y0 : -65536 ≤ y) (y1 : y ≤ 65536) (hlo : -32768 ≤ lo) (hhi : hi ≤ 65535) (w : World) :
    Calls Tryd.prog 24 #[.int .u8 3, .int .i64 x, .int .i64 y, .int .i64 lo, .int .i64 hi] w (Ret (fitL (x * y) lo hi) w) := by
  obtain ⟨m0, m1⟩ := mul_bd3 x y x0 x1 y0 y1
  go_enter Tryd.func24, Tryd.ntmps24
  go_wp2_with fail
  refine (fits_any _ lo hi (by omega) (by omega) hlo hhi _).mono ?_
  rintro e w1 ⟨rfl, rfl⟩
  go_wp2_with fail
  go_ret2
  exact ⟨rfl, rfl⟩

theorem num_4 (x y lo hi : Int) (x0 : -65536 ≤ x) (x1 : x ≤ 65536) (y0 : -65536 ≤ y) (y1 : y ≤ 65536) (hlo : -32768 ≤ lo) (hhi : hi ≤ 65535) (w : World) :
    Calls Tryd.prog 24 #[.int .u8 4, .int .i64 x, .int .i64 y, .int .i64 lo, .int .i64 hi] w (Ret (divL y (fitL (x.tdiv y) lo hi)) w) := by
  by_cases hy : y = 0
  · subst hy
    go_enter Tryd.func24, Tryd.ntmps24
    go_wp2_with fail
    go_ret2
    exact ⟨ret_of (p := (0, 4)) (divL_zero _).symm, rfl⟩
  · have HY := Lib.hid hy
    have hy2 : (y == 0) = false := beq_eq_false_iff_ne.2 hy
    have hb : (x.tdiv y).natAbs ≤ x.natAbs := by rw [Int.natAbs_tdiv]; exact Nat.div_le_self _ _
    have hb2 := tm_le x y
    clear hy
    go_enter Tryd.func24, Tryd.ntmps24
    go_wp2_with fail
    refine (quotient_any x y x0 x1 y0 y1 HY.out _).mono ?_
    rintro e w1 ⟨rfl, rfl⟩
    obtain ⟨q, hq⟩ : ∃ q, x.tdiv y = q := ⟨_, rfl⟩
    obtain ⟨r, hr⟩ : ∃ r, x.tmod y = r := ⟨_, rfl⟩
    rw [hq, hr]
    rw [hq] at hb
    rw [hr] at hb2
    have HQ := Lib.hid hq
    have HR := Lib.hid hr
    clear hq hr
    go_wp2_with fail
    refine (fits_any q lo hi (by omega) (by omega) hlo hhi _).mono ?_
    rintro e w1 ⟨rfl, rfl⟩
    go_wp2_with fail
    go_ret2
    exact ⟨ret_of (p := fitL q lo hi) (by rw [divL_else _ _ HY.out, HQ.out]), rfl⟩

theorem num_5 (x y lo hi : Int) (x0 : -65536 ≤ x) (x1 : x ≤ 65536) (y0 : -65536 ≤ y) (y1 : y ≤ 65536) (hlo : -32768 ≤ lo) (hhi : hi ≤ 65535) (w : World) :
    Calls Tryd.prog 24 #[.int .u8 5, .int .i64 x, .int .i64 y, .int .i64 lo, .int .i64 hi] w (Ret (divL y (fitL (x.tmod y) lo hi)) w) := by
  by_cases hy : y = 0
  · subst hy
    go_enter Tryd.func24, Tryd.ntmps24
    go_wp2_with fail
    go_ret2
    exact ⟨ret_of (p := (0, 4)) (divL_zero _).symm, rfl⟩
  · have HY := Lib.hid hy
    have hy2 : (y == 0) = false := beq_eq_false_iff_ne.2 hy
    have hb : (x.tdiv y).natAbs ≤ x.natAbs := by rw [Int.natAbs_tdiv]; exact Nat.div_le_self _ _
    have hb2 := tm_le x y
    clear hy
    go_enter Tryd.func24, Tryd.ntmps24
    go_wp2_with fail
    refine (quotient_any x y x0 x1 y0 y1 HY.out _).mono ?_
    rintro e w1 ⟨rfl, rfl⟩
    obtain ⟨q, hq⟩ : ∃ q, x.tdiv y = q := ⟨_, rfl⟩
    obtain ⟨r, hr⟩ : ∃ r, x.tmod y = r := ⟨_, rfl⟩
    rw [hq, hr]
    rw [hq] at hb
    rw [hr] at hb2
    have HQ := Lib.hid hq
    have HR := Lib.hid hr
    clear hq hr
    go_wp2_with fail
    refine (fits_any r lo hi (by omega) (by omega) hlo hhi _).mono ?_
    rintro e w1 ⟨rfl, rfl⟩
    go_wp2_with fail
    go_ret2
    exact ⟨ret_of (p := fitL r lo hi) (by rw [divL_else _ _ HY.out, HR.out]), rfl⟩

theorem takes_is (op t : Int) (h0 : 0 ≤ op) (h1 : op ≤ 255) (h : takesN op = t) (w : World) :
    Calls Tryd.prog 12 #[.int .u8 op] w fun e w' => e = .returned (.int .i64 t) ∧ w = w' := by
  have h2 := refTakes_any op h0 h1 w
  rw [h] at h2
  exact h2
theorem sg_eq0 (b : Int) (b0 : 0 ≤ b) (b1 : b ≤ 65535) : (sg b = 0) = (b = 0) := by unfold sg; split <;> (apply propext; omega)

theorem u_div (a b : Int) (a0 : 0 ≤ a) (a1 : a ≤ 65535) (b0 : 0 ≤ b) : (if b = 0 then ((0 : Int), (4 : Int)) else fU (a / b)) = (if b = 0 then (0, 4) else (a / b, 0)) := by
  by_cases h : b = 0
  · rw [if_pos h, if_pos h]
  · rw [if_neg h, if_neg h, fU_in (Int.ediv_nonneg a0 b0) (by have := Int.ediv_le_self b a0; omega)]
theorem u_mod (a b : Int) (a0 : 0 ≤ a) (a1 : a ≤ 65535) (b0 : 0 ≤ b) : (if b = 0 then ((0 : Int), (4 : Int)) else fU (a % b)) = (if b = 0 then (0, 4) else (a % b, 0)) := by
  by_cases h : b = 0
  · rw [if_pos h, if_pos h]
  · have h1 := Int.emod_nonneg a h
    have h2 := Int.emod_lt_of_pos a (show 0 < b by omega)
    have h3 : a % b ≤ a := by have := Int.emod_add_mul_ediv a b; have := Int.mul_nonneg b0 (Int.ediv_nonneg a0 b0); omega
    rw [if_neg h, if_neg h, fU_in h1 (by omega)]
theorem ref_1 (a b : Int) (a0 : 0 ≤ a) (a1 : a ≤ 65535) (b0 : 0 ≤ b) (b1 : b ≤ 65535) (w : World) :
    Calls Tryd.prog 10 #[.int .u8 1, .int .u16 a, .int .u16 b] w (Ret (D 1 a b) w) := by
  obtain ⟨sa0, sa1⟩ := sg_bd a a0 a1
  obtain ⟨sb0, sb1⟩ := sg_bd b b0 b1
  go_enter Tryd.func10, Tryd.ntmps10
  go_wp2_with fail
  refine (refInt_any a a0 a1 _).mono ?_
  rintro e w1 ⟨rfl, rfl⟩
  go_wp2_with fail
  refine (refInt_any b b0 b1 _).mono ?_
  rintro e w1 ⟨rfl, rfl⟩
  go_wp2_with fail
  refine (takes_is 1 2 (by omega) (by omega) (by decide) _).mono ?_
  rintro e w1 ⟨rfl, rfl⟩
  go_wp2_with fail
  refine (num_1 (sg a) (sg b) (-32768) 32767 (by omega) (by omega) (by omega) (by omega) (by omega) (by omega) _).mono ?_
  rintro e w1 ⟨rfl, rfl⟩
  go_wp2_with fail
  go_ret2
  exact ⟨ret_of (by rw [D_1, fitL_s]), rfl⟩

theorem ref_2 (a b : Int) (a0 : 0 ≤ a) (a1 : a ≤ 65535) (b0 : 0 ≤ b) (b1 : b ≤ 65535) (w : World) :
    Calls Tryd.prog 10 #[.int .u8 2, .int .u16 a, .int .u16 b] w (Ret (D 2 a b) w) := by
  obtain ⟨sa0, sa1⟩ := sg_bd a a0 a1
  obtain ⟨sb0, sb1⟩ := sg_bd b b0 b1
  go_enter Tryd.func10, Tryd.ntmps10
  go_wp2_with fail
  refine (refInt_any a a0 a1 _).mono ?_
  rintro e w1 ⟨rfl, rfl⟩
  go_wp2_with fail
  refine (refInt_any b b0 b1 _).mono ?_
  rintro e w1 ⟨rfl, rfl⟩
  go_wp2_with fail
  refine (takes_is 2 2 (by omega) (by omega) (by decide) _).mono ?_
  rintro e w1 ⟨rfl, rfl⟩
  go_wp2_with fail
  refine (num_2 (sg a) (sg b) (-32768) 32767 (by omega) (by omega) (by omega) (by omega) (by omega) (by omega) _).mono ?_
  rintro e w1 ⟨rfl, rfl⟩
  go_wp2_with fail
  go_ret2
  exact ⟨ret_of (by rw [D_2, fitL_s]), rfl⟩

theorem ref_3 (a b : Int) (a0 : 0 ≤ a) (a1 : a ≤ 65535) (b0 : 0 ≤ b) (b1 : b ≤ 65535) (w : World) :
    Calls Tryd.prog 10 #[.int .u8 3, .int .u16 a, .int .u16 b] w (Ret (D 3 a b) w) := by
  obtain ⟨sa0, sa1⟩ := sg_bd a a0 a1
  obtain ⟨sb0, sb1⟩ := sg_bd b b0 b1
  go_enter Tryd.func10, Tryd.ntmps10
  go_wp2_with fail
  refine (refInt_any a a0 a1 _).mono ?_
  rintro e w1 ⟨rfl, rfl⟩
  go_wp2_with fail
  refine (refInt_any b b0 b1 _).mono ?_
  rintro e w1 ⟨rfl, rfl⟩
  go_wp2_with fail
  refine (takes_is 3 2 (by omega) (by omega) (by decide) _).mono ?_
  rintro e w1 ⟨rfl, rfl⟩
  go_wp2_with fail
  refine (num_3 (sg a) (sg b) (-32768) 32767 (by omega) (by omega) (by omega) (by omega) (by omega) (by omega) _).mono ?_
  rintro e w1 ⟨rfl, rfl⟩
  go_wp2_with fail
  go_ret2
  exact ⟨ret_of (by rw [D_3, fitL_s]), rfl⟩

theorem ref_4 (a b : Int) (a0 : 0 ≤ a) (a1 : a ≤ 65535) (b0 : 0 ≤ b) (b1 : b ≤ 65535) (w : World) :
    Calls Tryd.prog 10 #[.int .u8 4, .int .u16 a, .int .u16 b] w (Ret (D 4 a b) w) := by
  obtain ⟨sa0, sa1⟩ := sg_bd a a0 a1
  obtain ⟨sb0, sb1⟩ := sg_bd b b0 b1
  go_enter Tryd.func10, Tryd.ntmps10
  go_wp2_with fail
  refine (refInt_any a a0 a1 _).mono ?_
  rintro e w1 ⟨rfl, rfl⟩
  go_wp2_with fail
  refine (refInt_any b b0 b1 _).mono ?_
  rintro e w1 ⟨rfl, rfl⟩
  go_wp2_with fail
  refine (takes_is 4 2 (by omega) (by omega) (by decide) _).mono ?_
  rintro e w1 ⟨rfl, rfl⟩
  go_wp2_with fail
  refine (num_4 (sg a) (sg b) (-32768) 32767 (by omega) (by omega) (by omega) (by omega) (by omega) (by omega) _).mono ?_
  rintro e w1 ⟨rfl, rfl⟩
  go_wp2_with fail
  go_ret2
  exact ⟨ret_of (by rw [D_4, fitL_s, divL_def]; simp only [sg_eq0 b b0 b1]), rfl⟩

theorem ref_5 (a b : Int) (a0 : 0 ≤ a) (a1 : a ≤ 65535) (b0 : 0 ≤ b) (b1 : b ≤ 65535) (w : World) :
    Calls Tryd.prog 10 #[.int .u8 5, .int .u16 a, .int .u16 b] w (Ret (D 5 a b) w) := by
  obtain ⟨sa0, sa1⟩ := sg_bd a a0 a1
  obtain ⟨sb0, sb1⟩ := sg_bd b b0 b1
  go_enter Tryd.func10, Tryd.ntmps10
  go_wp2_with fail
  refine (refInt_any a a0 a1 _).mono ?_
  rintro e w1 ⟨rfl, rfl⟩
  go_wp2_with fail
  refine (refInt_any b b0 b1 _).mono ?_
  rintro e w1 ⟨rfl, rfl⟩
  go_wp2_with fail
  refine (takes_is 5 2 (by omega) (by omega) (by decide) _).mono ?_
  rintro e w1 ⟨rfl, rfl⟩
  go_wp2_with fail
  refine (num_5 (sg a) (sg b) (-32768) 32767 (by omega) (by omega) (by omega) (by omega) (by omega) (by omega) _).mono ?_
  rintro e w1 ⟨rfl, rfl⟩
  go_wp2_with fail
  go_ret2
  exact ⟨ret_of (by rw [D_5, fitL_s, divL_def]; simp only [sg_eq0 b b0 b1]), rfl⟩

theorem ref_6 (a b : Int) (a0 : 0 ≤ a) (a1 : a ≤ 65535) (b0 : 0 ≤ b) (b1 : b ≤ 65535) (w : World) :
    Calls Tryd.prog 10 #[.int .u8 6, .int .u16 a, .int .u16 b] w (Ret (D 6 a b) w) := by
  obtain ⟨sa0, sa1⟩ := sg_bd a a0 a1
  obtain ⟨sb0, sb1⟩ := sg_bd b b0 b1
  go_enter Tryd.func10, Tryd.ntmps10
  go_wp2_with fail
  refine (refInt_any a a0 a1 _).mono ?_
  rintro e w1 ⟨rfl, rfl⟩
  go_wp2_with fail
  refine (refInt_any b b0 b1 _).mono ?_
  rintro e w1 ⟨rfl, rfl⟩
  go_wp2_with fail
  refine (takes_is 6 1 (by omega) (by omega) (by decide) _).mono ?_
  rintro e w1 ⟨rfl, rfl⟩
  go_wp2_with fail
  refine (fits_any (-(sg a)) (-32768) 32767 (by omega) (by omega) (by omega) (by omega) _).mono ?_
  rintro e w1 ⟨rfl, rfl⟩
  go_wp2_with fail
  go_ret2
  exact ⟨ret_of (by rw [D_6, fitL_s]), rfl⟩

theorem ref_7 (a b : Int) (a0 : 0 ≤ a) (a1 : a ≤ 65535) (b0 : 0 ≤ b) (b1 : b ≤ 65535) (w : World) :
    Calls Tryd.prog 10 #[.int .u8 7, .int .u16 a, .int .u16 b] w (Ret (D 7 a b) w) := by
  obtain ⟨sa0, sa1⟩ := sg_bd a a0 a1
  obtain ⟨sb0, sb1⟩ := sg_bd b b0 b1
  go_enter Tryd.func10, Tryd.ntmps10
  go_wp2_with fail
  refine (refInt_any a a0 a1 _).mono ?_
  rintro e w1 ⟨rfl, rfl⟩
  go_wp2_with fail
  refine (refInt_any b b0 b1 _).mono ?_
  rintro e w1 ⟨rfl, rfl⟩
  go_wp2_with fail
  refine (takes_is 7 1 (by omega) (by omega) (by decide) _).mono ?_
  rintro e w1 ⟨rfl, rfl⟩
  go_wp2_with fail
  refine (fits_any (max (sg a) (-(sg a))) (-32768) 32767 (by omega) (by omega) (by omega) (by omega) _).mono ?_
  rintro e w1 ⟨rfl, rfl⟩
  go_wp2_with fail
  go_ret2
  exact ⟨ret_of (by rw [D_7, fitL_s]; congr 1; omega), rfl⟩

theorem ref_8 (a b : Int) (a0 : 0 ≤ a) (a1 : a ≤ 65535) (b0 : 0 ≤ b) (b1 : b ≤ 65535) (w : World) :
    Calls Tryd.prog 10 #[.int .u8 8, .int .u16 a, .int .u16 b] w (Ret (D 8 a b) w) := by
  obtain ⟨sa0, sa1⟩ := sg_bd a a0 a1
  obtain ⟨sb0, sb1⟩ := sg_bd b b0 b1
  go_enter Tryd.func10, Tryd.ntmps10
  go_wp2_with fail
  refine (refInt_any a a0 a1 _).mono ?_
  rintro e w1 ⟨rfl, rfl⟩
  go_wp2_with fail
  refine (refInt_any b b0 b1 _).mono ?_
  rintro e w1 ⟨rfl, rfl⟩
  go_wp2_with fail
  refine (takes_is 8 2 (by omega) (by omega) (by decide) _).mono ?_
  rintro e w1 ⟨rfl, rfl⟩
  go_wp2_with fail
  refine (num_1 a b 0 65535 (by omega) (by omega) (by omega) (by omega) (by omega) (by omega) _).mono ?_
  rintro e w1 ⟨rfl, rfl⟩
  go_wp2_with fail
  go_ret2
  exact ⟨ret_of (by rw [D_8, fitL_u]), rfl⟩

theorem ref_9 (a b : Int) (a0 : 0 ≤ a) (a1 : a ≤ 65535) (b0 : 0 ≤ b) (b1 : b ≤ 65535) (w : World) :
    Calls Tryd.prog 10 #[.int .u8 9, .int .u16 a, .int .u16 b] w (Ret (D 9 a b) w) := by
  obtain ⟨sa0, sa1⟩ := sg_bd a a0 a1
  obtain ⟨sb0, sb1⟩ := sg_bd b b0 b1
  go_enter Tryd.func10, Tryd.ntmps10
  go_wp2_with fail
  refine (refInt_any a a0 a1 _).mono ?_
  rintro e w1 ⟨rfl, rfl⟩
  go_wp2_with fail
  refine (refInt_any b b0 b1 _).mono ?_
  rintro e w1 ⟨rfl, rfl⟩
  go_wp2_with fail
  refine (takes_is 9 2 (by omega) (by omega) (by decide) _).mono ?_
  rintro e w1 ⟨rfl, rfl⟩
  go_wp2_with fail
  refine (num_2 a b 0 65535 (by omega) (by omega) (by omega) (by omega) (by omega) (by omega) _).mono ?_
  rintro e w1 ⟨rfl, rfl⟩
  go_wp2_with fail
  go_ret2
  exact ⟨ret_of (by rw [D_9, fitL_u]), rfl⟩

theorem ref_10 (a b : Int) (a0 : 0 ≤ a) (a1 : a ≤ 65535) (b0 : 0 ≤ b) (b1 : b ≤ 65535) (w : World) :
    Calls Tryd.prog 10 #[.int .u8 10, .int .u16 a, .int .u16 b] w (Ret (D 10 a b) w) := by
  obtain ⟨sa0, sa1⟩ := sg_bd a a0 a1
  obtain ⟨sb0, sb1⟩ := sg_bd b b0 b1
  go_enter Tryd.func10, Tryd.ntmps10
  go_wp2_with fail
  refine (refInt_any a a0 a1 _).mono ?_
  rintro e w1 ⟨rfl, rfl⟩
  go_wp2_with fail
  refine (refInt_any b b0 b1 _).mono ?_
  rintro e w1 ⟨rfl, rfl⟩
  go_wp2_with fail
  refine (takes_is 10 2 (by omega) (by omega) (by decide) _).mono ?_
  rintro e w1 ⟨rfl, rfl⟩
  go_wp2_with fail
  refine (num_3 a b 0 65535 (by omega) (by omega) (by omega) (by omega) (by omega) (by omega) _).mono ?_
  rintro e w1 ⟨rfl, rfl⟩
  go_wp2_with fail
  go_ret2
  exact ⟨ret_of (by rw [D_10, fitL_u]), rfl⟩

theorem ref_11 (a b : Int) (a0 : 0 ≤ a) (a1 : a ≤ 65535) (b0 : 0 ≤ b) (b1 : b ≤ 65535) (w : World) :
    Calls Tryd.prog 10 #[.int .u8 11, .int .u16 a, .int .u16 b] w (Ret (D 11 a b) w) := by
  obtain ⟨sa0, sa1⟩ := sg_bd a a0 a1
  obtain ⟨sb0, sb1⟩ := sg_bd b b0 b1
  go_enter Tryd.func10, Tryd.ntmps10
  go_wp2_with fail
  refine (refInt_any a a0 a1 _).mono ?_
  rintro e w1 ⟨rfl, rfl⟩
  go_wp2_with fail
  refine (refInt_any b b0 b1 _).mono ?_
  rintro e w1 ⟨rfl, rfl⟩
  go_wp2_with fail
  refine (takes_is 11 2 (by omega) (by omega) (by decide) _).mono ?_
  rintro e w1 ⟨rfl, rfl⟩
  go_wp2_with fail
  refine (num_4 a b 0 65535 (by omega) (by omega) (by omega) (by omega) (by omega) (by omega) _).mono ?_
  rintro e w1 ⟨rfl, rfl⟩
  go_wp2_with fail
  go_ret2
  exact ⟨ret_of (by rw [D_11, fitL_u, divL_def, Int.tdiv_eq_ediv_of_nonneg a0, u_div a b a0 a1 b0]), rfl⟩

theorem ref_12 (a b : Int) (a0 : 0 ≤ a) (a1 : a ≤ 65535) (b0 : 0 ≤ b) (b1 : b ≤ 65535) (w : World) :
    Calls Tryd.prog 10 #[.int .u8 12, .int .u16 a, .int .u16 b] w (Ret (D 12 a b) w) := by
  obtain ⟨sa0, sa1⟩ := sg_bd a a0 a1
  obtain ⟨sb0, sb1⟩ := sg_bd b b0 b1
  go_enter Tryd.func10, Tryd.ntmps10
  go_wp2_with fail
  refine (refInt_any a a0 a1 _).mono ?_
  rintro e w1 ⟨rfl, rfl⟩
  go_wp2_with fail
  refine (refInt_any b b0 b1 _).mono ?_
  rintro e w1 ⟨rfl, rfl⟩
  go_wp2_with fail
  refine (takes_is 12 2 (by omega) (by omega) (by decide) _).mono ?_
  rintro e w1 ⟨rfl, rfl⟩
  go_wp2_with fail
  refine (num_5 a b 0 65535 (by omega) (by omega) (by omega) (by omega) (by omega) (by omega) _).mono ?_
  rintro e w1 ⟨rfl, rfl⟩
  go_wp2_with fail
  go_ret2
  exact ⟨ret_of (by rw [D_12, fitL_u, divL_def, u_mod a b a0 a1 b0]), rfl⟩

theorem ref_13 (a b : Int) (a0 : 0 ≤ a) (a1 : a ≤ 65535) (b0 : 0 ≤ b) (b1 : b ≤ 65535) (w : World) :
    Calls Tryd.prog 10 #[.int .u8 13, .int .u16 a, .int .u16 b] w (Ret (D 13 a b) w) := by
  obtain ⟨sa0, sa1⟩ := sg_bd a a0 a1
  obtain ⟨sb0, sb1⟩ := sg_bd b b0 b1
  go_enter Tryd.func10, Tryd.ntmps10
  go_wp2_with fail
  refine (refInt_any a a0 a1 _).mono ?_
  rintro e w1 ⟨rfl, rfl⟩
  go_wp2_with fail
  refine (refInt_any b b0 b1 _).mono ?_
  rintro e w1 ⟨rfl, rfl⟩
  go_wp2_with fail
  refine (takes_is 13 2 (by omega) (by omega) (by decide) _).mono ?_
  rintro e w1 ⟨rfl, rfl⟩
  go_wp2_with fail
  refine (so_any (a == b) _).mono ?_
  rintro e w1 ⟨rfl, rfl⟩
  go_wp2_with fail
  go_ret2
  exact ⟨ret_of (p := ask (a == b)) (by rw [D_13, eq_dec]), rfl⟩

theorem ref_14 (a b : Int) (a0 : 0 ≤ a) (a1 : a ≤ 65535) (b0 : 0 ≤ b) (b1 : b ≤ 65535) (w : World) :
    Calls Tryd.prog 10 #[.int .u8 14, .int .u16 a, .int .u16 b] w (Ret (D 14 a b) w) := by
  obtain ⟨sa0, sa1⟩ := sg_bd a a0 a1
  obtain ⟨sb0, sb1⟩ := sg_bd b b0 b1
  go_enter Tryd.func10, Tryd.ntmps10
  go_wp2_with fail
  refine (refInt_any a a0 a1 _).mono ?_
  rintro e w1 ⟨rfl, rfl⟩
  go_wp2_with fail
  refine (refInt_any b b0 b1 _).mono ?_
  rintro e w1 ⟨rfl, rfl⟩
  go_wp2_with fail
  refine (takes_is 14 2 (by omega) (by omega) (by decide) _).mono ?_
  rintro e w1 ⟨rfl, rfl⟩
  go_wp2_with fail
  refine (so_any (a != b) _).mono ?_
  rintro e w1 ⟨rfl, rfl⟩
  go_wp2_with fail
  go_ret2
  exact ⟨ret_of (p := ask (a != b)) (by rw [D_14, ne_dec]), rfl⟩

theorem ref_15 (a b : Int) (a0 : 0 ≤ a) (a1 : a ≤ 65535) (b0 : 0 ≤ b) (b1 : b ≤ 65535) (w : World) :
    Calls Tryd.prog 10 #[.int .u8 15, .int .u16 a, .int .u16 b] w (Ret (D 15 a b) w) := by
  obtain ⟨sa0, sa1⟩ := sg_bd a a0 a1
  obtain ⟨sb0, sb1⟩ := sg_bd b b0 b1
  go_enter Tryd.func10, Tryd.ntmps10
  go_wp2_with fail
  refine (refInt_any a a0 a1 _).mono ?_
  rintro e w1 ⟨rfl, rfl⟩
  go_wp2_with fail
  refine (refInt_any b b0 b1 _).mono ?_
  rintro e w1 ⟨rfl, rfl⟩
  go_wp2_with fail
  refine (takes_is 15 2 (by omega) (by omega) (by decide) _).mono ?_
  rintro e w1 ⟨rfl, rfl⟩
  go_wp2_with fail
  refine (asks_r0 (sg a) (sg b) _).mono ?_
  rintro e w1 ⟨rfl, rfl⟩
  go_wp2_with fail
  go_ret2
  exact ⟨ret_of (by rw [D_15]), rfl⟩

theorem ref_16 (a b : Int) (a0 : 0 ≤ a) (a1 : a ≤ 65535) (b0 : 0 ≤ b) (b1 : b ≤ 65535) (w : World) :
    Calls Tryd.prog 10 #[.int .u8 16, .int .u16 a, .int .u16 b] w (Ret (D 16 a b) w) := by
  obtain ⟨sa0, sa1⟩ := sg_bd a a0 a1
  obtain ⟨sb0, sb1⟩ := sg_bd b b0 b1
  go_enter Tryd.func10, Tryd.ntmps10
  go_wp2_with fail
  refine (refInt_any a a0 a1 _).mono ?_
  rintro e w1 ⟨rfl, rfl⟩
  go_wp2_with fail
  refine (refInt_any b b0 b1 _).mono ?_
  rintro e w1 ⟨rfl, rfl⟩
  go_wp2_with fail
  refine (takes_is 16 2 (by omega) (by omega) (by decide) _).mono ?_
  rintro e w1 ⟨rfl, rfl⟩
  go_wp2_with fail
  refine (asks_r1 (sg a) (sg b) _).mono ?_
  rintro e w1 ⟨rfl, rfl⟩
  go_wp2_with fail
  go_ret2
  exact ⟨ret_of (by rw [D_16]), rfl⟩

theorem ref_17 (a b : Int) (a0 : 0 ≤ a) (a1 : a ≤ 65535) (b0 : 0 ≤ b) (b1 : b ≤ 65535) (w : World) :
    Calls Tryd.prog 10 #[.int .u8 17, .int .u16 a, .int .u16 b] w (Ret (D 17 a b) w) := by
  obtain ⟨sa0, sa1⟩ := sg_bd a a0 a1
  obtain ⟨sb0, sb1⟩ := sg_bd b b0 b1
  go_enter Tryd.func10, Tryd.ntmps10
  go_wp2_with fail
  refine (refInt_any a a0 a1 _).mono ?_
  rintro e w1 ⟨rfl, rfl⟩
  go_wp2_with fail
  refine (refInt_any b b0 b1 _).mono ?_
  rintro e w1 ⟨rfl, rfl⟩
  go_wp2_with fail
  refine (takes_is 17 2 (by omega) (by omega) (by decide) _).mono ?_
  rintro e w1 ⟨rfl, rfl⟩
  go_wp2_with fail
  refine (asks_r2 (sg a) (sg b) _).mono ?_
  rintro e w1 ⟨rfl, rfl⟩
  go_wp2_with fail
  go_ret2
  exact ⟨ret_of (by rw [D_17]), rfl⟩

theorem ref_18 (a b : Int) (a0 : 0 ≤ a) (a1 : a ≤ 65535) (b0 : 0 ≤ b) (b1 : b ≤ 65535) (w : World) :
    Calls Tryd.prog 10 #[.int .u8 18, .int .u16 a, .int .u16 b] w (Ret (D 18 a b) w) := by
  obtain ⟨sa0, sa1⟩ := sg_bd a a0 a1
  obtain ⟨sb0, sb1⟩ := sg_bd b b0 b1
  go_enter Tryd.func10, Tryd.ntmps10
  go_wp2_with fail
  refine (refInt_any a a0 a1 _).mono ?_
  rintro e w1 ⟨rfl, rfl⟩
  go_wp2_with fail
  refine (refInt_any b b0 b1 _).mono ?_
  rintro e w1 ⟨rfl, rfl⟩
  go_wp2_with fail
  refine (takes_is 18 2 (by omega) (by omega) (by decide) _).mono ?_
  rintro e w1 ⟨rfl, rfl⟩
  go_wp2_with fail
  refine (asks_r3 (sg a) (sg b) _).mono ?_
  rintro e w1 ⟨rfl, rfl⟩
  go_wp2_with fail
  go_ret2
  exact ⟨ret_of (by rw [D_18]), rfl⟩

theorem ref_19 (a b : Int) (a0 : 0 ≤ a) (a1 : a ≤ 65535) (b0 : 0 ≤ b) (b1 : b ≤ 65535) (w : World) :
    Calls Tryd.prog 10 #[.int .u8 19, .int .u16 a, .int .u16 b] w (Ret (D 19 a b) w) := by
  obtain ⟨sa0, sa1⟩ := sg_bd a a0 a1
  obtain ⟨sb0, sb1⟩ := sg_bd b b0 b1
  go_enter Tryd.func10, Tryd.ntmps10
  go_wp2_with fail
  refine (refInt_any a a0 a1 _).mono ?_
  rintro e w1 ⟨rfl, rfl⟩
  go_wp2_with fail
  refine (refInt_any b b0 b1 _).mono ?_
  rintro e w1 ⟨rfl, rfl⟩
  go_wp2_with fail
  refine (takes_is 19 2 (by omega) (by omega) (by decide) _).mono ?_
  rintro e w1 ⟨rfl, rfl⟩
  go_wp2_with fail
  refine (asks_r0 a b _).mono ?_
  rintro e w1 ⟨rfl, rfl⟩
  go_wp2_with fail
  go_ret2
  exact ⟨ret_of (by rw [D_19]), rfl⟩

theorem ref_20 (a b : Int) (a0 : 0 ≤ a) (a1 : a ≤ 65535) (b0 : 0 ≤ b) (b1 : b ≤ 65535) (w : World) :
    Calls Tryd.prog 10 #[.int .u8 20, .int .u16 a, .int .u16 b] w (Ret (D 20 a b) w) := by
  obtain ⟨sa0, sa1⟩ := sg_bd a a0 a1
  obtain ⟨sb0, sb1⟩ := sg_bd b b0 b1
  go_enter Tryd.func10, Tryd.ntmps10
  go_wp2_with fail
  refine (refInt_any a a0 a1 _).mono ?_
  rintro e w1 ⟨rfl, rfl⟩
  go_wp2_with fail
  refine (refInt_any b b0 b1 _).mono ?_
  rintro e w1 ⟨rfl, rfl⟩
  go_wp2_with fail
  refine (takes_is 20 2 (by omega) (by omega) (by decide) _).mono ?_
  rintro e w1 ⟨rfl, rfl⟩
  go_wp2_with fail
  refine (asks_r1 a b _).mono ?_
  rintro e w1 ⟨rfl, rfl⟩
  go_wp2_with fail
  go_ret2
  exact ⟨ret_of (by rw [D_20]), rfl⟩

theorem ref_21 (a b : Int) (a0 : 0 ≤ a) (a1 : a ≤ 65535) (b0 : 0 ≤ b) (b1 : b ≤ 65535) (w : World) :
    Calls Tryd.prog 10 #[.int .u8 21, .int .u16 a, .int .u16 b] w (Ret (D 21 a b) w) := by
  obtain ⟨sa0, sa1⟩ := sg_bd a a0 a1
  obtain ⟨sb0, sb1⟩ := sg_bd b b0 b1
  go_enter Tryd.func10, Tryd.ntmps10
  go_wp2_with fail
  refine (refInt_any a a0 a1 _).mono ?_
  rintro e w1 ⟨rfl, rfl⟩
  go_wp2_with fail
  refine (refInt_any b b0 b1 _).mono ?_
  rintro e w1 ⟨rfl, rfl⟩
  go_wp2_with fail
  refine (takes_is 21 2 (by omega) (by omega) (by decide) _).mono ?_
  rintro e w1 ⟨rfl, rfl⟩
  go_wp2_with fail
  refine (asks_r2 a b _).mono ?_
  rintro e w1 ⟨rfl, rfl⟩
  go_wp2_with fail
  go_ret2
  exact ⟨ret_of (by rw [D_21]), rfl⟩

theorem ref_22 (a b : Int) (a0 : 0 ≤ a) (a1 : a ≤ 65535) (b0 : 0 ≤ b) (b1 : b ≤ 65535) (w : World) :
    Calls Tryd.prog 10 #[.int .u8 22, .int .u16 a, .int .u16 b] w (Ret (D 22 a b) w) := by
  obtain ⟨sa0, sa1⟩ := sg_bd a a0 a1
  obtain ⟨sb0, sb1⟩ := sg_bd b b0 b1
  go_enter Tryd.func10, Tryd.ntmps10
  go_wp2_with fail
  refine (refInt_any a a0 a1 _).mono ?_
  rintro e w1 ⟨rfl, rfl⟩
  go_wp2_with fail
  refine (refInt_any b b0 b1 _).mono ?_
  rintro e w1 ⟨rfl, rfl⟩
  go_wp2_with fail
  refine (takes_is 22 2 (by omega) (by omega) (by decide) _).mono ?_
  rintro e w1 ⟨rfl, rfl⟩
  go_wp2_with fail
  refine (asks_r3 a b _).mono ?_
  rintro e w1 ⟨rfl, rfl⟩
  go_wp2_with fail
  go_ret2
  exact ⟨ret_of (by rw [D_22]), rfl⟩

theorem ref_23 (a b : Int) (a0 : 0 ≤ a) (a1 : a ≤ 65535) (b0 : 0 ≤ b) (b1 : b ≤ 65535) (w : World) :
    Calls Tryd.prog 10 #[.int .u8 23, .int .u16 a, .int .u16 b] w (Ret (D 23 a b) w) := by
  obtain ⟨sa0, sa1⟩ := sg_bd a a0 a1
  obtain ⟨sb0, sb1⟩ := sg_bd b b0 b1
  go_enter Tryd.func10, Tryd.ntmps10
  go_wp2_with fail
  refine (refInt_any a a0 a1 _).mono ?_
  rintro e w1 ⟨rfl, rfl⟩
  go_wp2_with fail
  refine (refInt_any b b0 b1 _).mono ?_
  rintro e w1 ⟨rfl, rfl⟩
  go_wp2_with fail
  refine (takes_is 23 1 (by omega) (by omega) (by decide) _).mono ?_
  rintro e w1 ⟨rfl, rfl⟩
  go_wp2_with fail
  refine (so_any (a == 0) _).mono ?_
  rintro e w1 ⟨rfl, rfl⟩
  go_wp2_with fail
  go_ret2
  exact ⟨ret_of (p := ask (a == 0)) (by rw [D_23, eq_dec]), rfl⟩
end Go.Proofs.YtgghdllbegkioaaDoor
