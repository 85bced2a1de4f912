/- The other leaf functions of package word, walked: division, questions, sets. -/
import Derived.Test.YtcecjjjehhjldaaWdA
import Derived.Lib.Hide
namespace Go.Proofs.Ytcecjjjehhjldaa
open Go.RowKit
set_option maxHeartbeats 400000
set_option linter.unusedVariables false

theorem sg_inj (a b : Int) (a0 : 0 ≤ a) (a1 : a ≤ 65535) (b0 : 0 ≤ b) (b1 : b ≤ 65535) (h : sg a = sg b) : a = b := by
  unfold sg at h; split at h <;> split at h <;> omega

theorem cmp_s_lt (a b : Int) (a0 : 0 ≤ a) (a1 : a ≤ 65535) (b0 : 0 ≤ b) (b1 : b ≤ 65535) (w : World) (h : sg a < sg b) : Calls Try.prog 57 #[.int .u16 a, .int .u16 b] w fun e w' => e = .returned (.int .i64 (-1)) ∧ w = w' := by
  have ea := wrap_i16_sg a a0 a1
  have eb := wrap_i16_sg b b0 b1
  go_enter Try.func57, Try.ntmps57
  go_wp2
  go_ret
  exact ⟨rfl, rfl⟩

theorem cmp_s_gt (a b : Int) (a0 : 0 ≤ a) (a1 : a ≤ 65535) (b0 : 0 ≤ b) (b1 : b ≤ 65535) (w : World) (h : sg b < sg a) : Calls Try.prog 57 #[.int .u16 a, .int .u16 b] w fun e w' => e = .returned (.int .i64 (1)) ∧ w = w' := by
  have ea := wrap_i16_sg a a0 a1
  have eb := wrap_i16_sg b b0 b1
  go_enter Try.func57, Try.ntmps57
  go_wp2
  go_ret
  exact ⟨rfl, rfl⟩

theorem cmp_s_eq (a : Int) (a0 : 0 ≤ a) (a1 : a ≤ 65535) (w : World) : Calls Try.prog 57 #[.int .u16 a, .int .u16 a] w fun e w' => e = .returned (.int .i64 0) ∧ w = w' := by
  have ea := wrap_i16_sg a a0 a1
  go_enter Try.func57, Try.ntmps57
  go_wp2
  go_ret
  exact ⟨rfl, rfl⟩

theorem cmp_u_lt (a b : Int) (a0 : 0 ≤ a) (a1 : a ≤ 65535) (b0 : 0 ≤ b) (b1 : b ≤ 65535) (w : World) (h : a < b) : Calls Try.prog 62 #[.int .u16 a, .int .u16 b] w fun e w' => e = .returned (.int .i64 (-1)) ∧ w = w' := by
  go_enter Try.func62, Try.ntmps62
  go_wp2
  go_ret
  exact ⟨rfl, rfl⟩

theorem cmp_u_gt (a b : Int) (a0 : 0 ≤ a) (a1 : a ≤ 65535) (b0 : 0 ≤ b) (b1 : b ≤ 65535) (w : World) (h : b < a) : Calls Try.prog 62 #[.int .u16 a, .int .u16 b] w fun e w' => e = .returned (.int .i64 (1)) ∧ w = w' := by
  go_enter Try.func62, Try.ntmps62
  go_wp2
  go_ret
  exact ⟨rfl, rfl⟩

theorem cmp_u_eq (a : Int) (a0 : 0 ≤ a) (a1 : a ≤ 65535) (w : World) : Calls Try.prog 62 #[.int .u16 a, .int .u16 a] w fun e w' => e = .returned (.int .i64 0) ∧ w = w' := by
  go_enter Try.func62, Try.ntmps62
  go_wp2
  go_ret
  exact ⟨rfl, rfl⟩

theorem c_ilt (a b : Int) (a0 : 0 ≤ a) (a1 : a ≤ 65535) (b0 : 0 ≤ b) (b1 : b ≤ 65535) (w : World) : Calls Try.prog 56 #[.int .u16 a, .int .u16 b] w (Ret (D 15 a b) w) := by
  have h : sg a < sg b ∨ sg a = sg b ∨ sg b < sg a := by omega
  rcases h with h | h | h
  · have hD : D 15 a b = ask true := by
      have hq : decide (sg a < sg b) = true := by rw [decide_eq_true_iff]; omega
      rw [← hq]; simp [D]
    have HD := Lib.hid hD
    clear hD
    go_enter Try.func56, Try.ntmps56
    go_wp2_with fail
    refine (cmp_s_lt a b a0 a1 b0 b1 _ h).mono ?_
    rintro e w' ⟨rfl, rfl⟩
    go_wp2_with fail
    refine (truth_any true _).mono ?_
    rintro e w' ⟨rfl, rfl⟩
    go_wp2_with fail
    go_ret2
    exact ⟨by rw [HD.out]; rfl, rfl⟩
  · obtain rfl := sg_inj a b a0 a1 b0 b1 h
    have hD : D 15 a a = ask false := by
      have hq : decide (sg a < sg a) = false := by rw [decide_eq_false_iff_not]; omega
      rw [← hq]; simp [D]
    have HD := Lib.hid hD
    clear hD
    go_enter Try.func56, Try.ntmps56
    go_wp2_with fail
    refine (cmp_s_eq a a0 a1 _).mono ?_
    rintro e w' ⟨rfl, rfl⟩
    go_wp2_with fail
    refine (truth_any false _).mono ?_
    rintro e w' ⟨rfl, rfl⟩
    go_wp2_with fail
    go_ret2
    exact ⟨by rw [HD.out]; rfl, rfl⟩
  · have hD : D 15 a b = ask false := by
      have hq : decide (sg a < sg b) = false := by rw [decide_eq_false_iff_not]; omega
      rw [← hq]; simp [D]
    have HD := Lib.hid hD
    clear hD
    go_enter Try.func56, Try.ntmps56
    go_wp2_with fail
    refine (cmp_s_gt a b a0 a1 b0 b1 _ h).mono ?_
    rintro e w' ⟨rfl, rfl⟩
    go_wp2_with fail
    refine (truth_any false _).mono ?_
    rintro e w' ⟨rfl, rfl⟩
    go_wp2_with fail
    go_ret2
    exact ⟨by rw [HD.out]; rfl, rfl⟩

theorem c_ile (a b : Int) (a0 : 0 ≤ a) (a1 : a ≤ 65535) (b0 : 0 ≤ b) (b1 : b ≤ 65535) (w : World) : Calls Try.prog 58 #[.int .u16 a, .int .u16 b] w (Ret (D 16 a b) w) := by
  have h : sg a < sg b ∨ sg a = sg b ∨ sg b < sg a := by omega
  rcases h with h | h | h
  · have hD : D 16 a b = ask true := by
      have hq : decide (sg a ≤ sg b) = true := by rw [decide_eq_true_iff]; omega
      rw [← hq]; simp [D]
    have HD := Lib.hid hD
    clear hD
    go_enter Try.func58, Try.ntmps58
    go_wp2_with fail
    refine (cmp_s_lt a b a0 a1 b0 b1 _ h).mono ?_
    rintro e w' ⟨rfl, rfl⟩
    go_wp2_with fail
    refine (truth_any true _).mono ?_
    rintro e w' ⟨rfl, rfl⟩
    go_wp2_with fail
    go_ret2
    exact ⟨by rw [HD.out]; rfl, rfl⟩
  · obtain rfl := sg_inj a b a0 a1 b0 b1 h
    have hD : D 16 a a = ask true := by
      have hq : decide (sg a ≤ sg a) = true := by rw [decide_eq_true_iff]; omega
      rw [← hq]; simp [D]
    have HD := Lib.hid hD
    clear hD
    go_enter Try.func58, Try.ntmps58
    go_wp2_with fail
    refine (cmp_s_eq a a0 a1 _).mono ?_
    rintro e w' ⟨rfl, rfl⟩
    go_wp2_with fail
    refine (truth_any true _).mono ?_
    rintro e w' ⟨rfl, rfl⟩
    go_wp2_with fail
    go_ret2
    exact ⟨by rw [HD.out]; rfl, rfl⟩
  · have hD : D 16 a b = ask false := by
      have hq : decide (sg a ≤ sg b) = false := by rw [decide_eq_false_iff_not]; omega
      rw [← hq]; simp [D]
    have HD := Lib.hid hD
    clear hD
    go_enter Try.func58, Try.ntmps58
    go_wp2_with fail
    refine (cmp_s_gt a b a0 a1 b0 b1 _ h).mono ?_
    rintro e w' ⟨rfl, rfl⟩
    go_wp2_with fail
    refine (truth_any false _).mono ?_
    rintro e w' ⟨rfl, rfl⟩
    go_wp2_with fail
    go_ret2
    exact ⟨by rw [HD.out]; rfl, rfl⟩

theorem c_igt (a b : Int) (a0 : 0 ≤ a) (a1 : a ≤ 65535) (b0 : 0 ≤ b) (b1 : b ≤ 65535) (w : World) : Calls Try.prog 59 #[.int .u16 a, .int .u16 b] w (Ret (D 17 a b) w) := by
  have h : sg a < sg b ∨ sg a = sg b ∨ sg b < sg a := by omega
  rcases h with h | h | h
  · have hD : D 17 a b = ask false := by
      have hq : decide (sg b < sg a) = false := by rw [decide_eq_false_iff_not]; omega
      rw [← hq]; simp [D]
    have HD := Lib.hid hD
    clear hD
    go_enter Try.func59, Try.ntmps59
    go_wp2_with fail
    refine (cmp_s_lt a b a0 a1 b0 b1 _ h).mono ?_
    rintro e w' ⟨rfl, rfl⟩
    go_wp2_with fail
    refine (truth_any false _).mono ?_
    rintro e w' ⟨rfl, rfl⟩
    go_wp2_with fail
    go_ret2
    exact ⟨by rw [HD.out]; rfl, rfl⟩
  · obtain rfl := sg_inj a b a0 a1 b0 b1 h
    have hD : D 17 a a = ask false := by
      have hq : decide (sg a < sg a) = false := by rw [decide_eq_false_iff_not]; omega
      rw [← hq]; simp [D]
    have HD := Lib.hid hD
    clear hD
    go_enter Try.func59, Try.ntmps59
    go_wp2_with fail
    refine (cmp_s_eq a a0 a1 _).mono ?_
    rintro e w' ⟨rfl, rfl⟩
    go_wp2_with fail
    refine (truth_any false _).mono ?_
    rintro e w' ⟨rfl, rfl⟩
    go_wp2_with fail
    go_ret2
    exact ⟨by rw [HD.out]; rfl, rfl⟩
  · have hD : D 17 a b = ask true := by
      have hq : decide (sg b < sg a) = true := by rw [decide_eq_true_iff]; omega
      rw [← hq]; simp [D]
    have HD := Lib.hid hD
    clear hD
    go_enter Try.func59, Try.ntmps59
    go_wp2_with fail
    refine (cmp_s_gt a b a0 a1 b0 b1 _ h).mono ?_
    rintro e w' ⟨rfl, rfl⟩
    go_wp2_with fail
    refine (truth_any true _).mono ?_
    rintro e w' ⟨rfl, rfl⟩
    go_wp2_with fail
    go_ret2
    exact ⟨by rw [HD.out]; rfl, rfl⟩

theorem c_ige (a b : Int) (a0 : 0 ≤ a) (a1 : a ≤ 65535) (b0 : 0 ≤ b) (b1 : b ≤ 65535) (w : World) : Calls Try.prog 60 #[.int .u16 a, .int .u16 b] w (Ret (D 18 a b) w) := by
  have h : sg a < sg b ∨ sg a = sg b ∨ sg b < sg a := by omega
  rcases h with h | h | h
  · have hD : D 18 a b = ask false := by
      have hq : decide (sg b ≤ sg a) = false := by rw [decide_eq_false_iff_not]; omega
      rw [← hq]; simp [D]
    have HD := Lib.hid hD
    clear hD
    go_enter Try.func60, Try.ntmps60
    go_wp2_with fail
    refine (cmp_s_lt a b a0 a1 b0 b1 _ h).mono ?_
    rintro e w' ⟨rfl, rfl⟩
    go_wp2_with fail
    refine (truth_any false _).mono ?_
    rintro e w' ⟨rfl, rfl⟩
    go_wp2_with fail
    go_ret2
    exact ⟨by rw [HD.out]; rfl, rfl⟩
  · obtain rfl := sg_inj a b a0 a1 b0 b1 h
    have hD : D 18 a a = ask true := by
      have hq : decide (sg a ≤ sg a) = true := by rw [decide_eq_true_iff]; omega
      rw [← hq]; simp [D]
    have HD := Lib.hid hD
    clear hD
    go_enter Try.func60, Try.ntmps60
    go_wp2_with fail
    refine (cmp_s_eq a a0 a1 _).mono ?_
    rintro e w' ⟨rfl, rfl⟩
    go_wp2_with fail
    refine (truth_any true _).mono ?_
    rintro e w' ⟨rfl, rfl⟩
    go_wp2_with fail
    go_ret2
    exact ⟨by rw [HD.out]; rfl, rfl⟩
  · have hD : D 18 a b = ask true := by
      have hq : decide (sg b ≤ sg a) = true := by rw [decide_eq_true_iff]; omega
      rw [← hq]; simp [D]
    have HD := Lib.hid hD
    clear hD
    go_enter Try.func60, Try.ntmps60
    go_wp2_with fail
    refine (cmp_s_gt a b a0 a1 b0 b1 _ h).mono ?_
    rintro e w' ⟨rfl, rfl⟩
    go_wp2_with fail
    refine (truth_any true _).mono ?_
    rintro e w' ⟨rfl, rfl⟩
    go_wp2_with fail
    go_ret2
    exact ⟨by rw [HD.out]; rfl, rfl⟩

theorem c_clt (a b : Int) (a0 : 0 ≤ a) (a1 : a ≤ 65535) (b0 : 0 ≤ b) (b1 : b ≤ 65535) (w : World) : Calls Try.prog 61 #[.int .u16 a, .int .u16 b] w (Ret (D 19 a b) w) := by
  have h : a < b ∨ a = b ∨ b < a := by omega
  rcases h with h | h | h
  · have hD : D 19 a b = ask true := by
      have hq : decide (a < b) = true := by rw [decide_eq_true_iff]; omega
      rw [← hq]; simp [D]
    have HD := Lib.hid hD
    clear hD
    go_enter Try.func61, Try.ntmps61
    go_wp2_with fail
    refine (cmp_u_lt a b a0 a1 b0 b1 _ h).mono ?_
    rintro e w' ⟨rfl, rfl⟩
    go_wp2_with fail
    refine (truth_any true _).mono ?_
    rintro e w' ⟨rfl, rfl⟩
    go_wp2_with fail
    go_ret2
    exact ⟨by rw [HD.out]; rfl, rfl⟩
  · obtain rfl := h
    have hD : D 19 a a = ask false := by
      have hq : decide (a < a) = false := by rw [decide_eq_false_iff_not]; omega
      rw [← hq]; simp [D]
    have HD := Lib.hid hD
    clear hD
    go_enter Try.func61, Try.ntmps61
    go_wp2_with fail
    refine (cmp_u_eq a a0 a1 _).mono ?_
    rintro e w' ⟨rfl, rfl⟩
    go_wp2_with fail
    refine (truth_any false _).mono ?_
    rintro e w' ⟨rfl, rfl⟩
    go_wp2_with fail
    go_ret2
    exact ⟨by rw [HD.out]; rfl, rfl⟩
  · have hD : D 19 a b = ask false := by
      have hq : decide (a < b) = false := by rw [decide_eq_false_iff_not]; omega
      rw [← hq]; simp [D]
    have HD := Lib.hid hD
    clear hD
    go_enter Try.func61, Try.ntmps61
    go_wp2_with fail
    refine (cmp_u_gt a b a0 a1 b0 b1 _ h).mono ?_
    rintro e w' ⟨rfl, rfl⟩
    go_wp2_with fail
    refine (truth_any false _).mono ?_
    rintro e w' ⟨rfl, rfl⟩
    go_wp2_with fail
    go_ret2
    exact ⟨by rw [HD.out]; rfl, rfl⟩

theorem c_cle (a b : Int) (a0 : 0 ≤ a) (a1 : a ≤ 65535) (b0 : 0 ≤ b) (b1 : b ≤ 65535) (w : World) : Calls Try.prog 63 #[.int .u16 a, .int .u16 b] w (Ret (D 20 a b) w) := by
  have h : a < b ∨ a = b ∨ b < a := by omega
  rcases h with h | h | h
  · have hD : D 20 a b = ask true := by
      have hq : decide (a ≤ b) = true := by rw [decide_eq_true_iff]; omega
      rw [← hq]; simp [D]
    have HD := Lib.hid hD
    clear hD
    go_enter Try.func63, Try.ntmps63
    go_wp2_with fail
    refine (cmp_u_lt a b a0 a1 b0 b1 _ h).mono ?_
    rintro e w' ⟨rfl, rfl⟩
    go_wp2_with fail
    refine (truth_any true _).mono ?_
    rintro e w' ⟨rfl, rfl⟩
    go_wp2_with fail
    go_ret2
    exact ⟨by rw [HD.out]; rfl, rfl⟩
  · obtain rfl := h
    have hD : D 20 a a = ask true := by
      have hq : decide (a ≤ a) = true := by rw [decide_eq_true_iff]; omega
      rw [← hq]; simp [D]
    have HD := Lib.hid hD
    clear hD
    go_enter Try.func63, Try.ntmps63
    go_wp2_with fail
    refine (cmp_u_eq a a0 a1 _).mono ?_
    rintro e w' ⟨rfl, rfl⟩
    go_wp2_with fail
    refine (truth_any true _).mono ?_
    rintro e w' ⟨rfl, rfl⟩
    go_wp2_with fail
    go_ret2
    exact ⟨by rw [HD.out]; rfl, rfl⟩
  · have hD : D 20 a b = ask false := by
      have hq : decide (a ≤ b) = false := by rw [decide_eq_false_iff_not]; omega
      rw [← hq]; simp [D]
    have HD := Lib.hid hD
    clear hD
    go_enter Try.func63, Try.ntmps63
    go_wp2_with fail
    refine (cmp_u_gt a b a0 a1 b0 b1 _ h).mono ?_
    rintro e w' ⟨rfl, rfl⟩
    go_wp2_with fail
    refine (truth_any false _).mono ?_
    rintro e w' ⟨rfl, rfl⟩
    go_wp2_with fail
    go_ret2
    exact ⟨by rw [HD.out]; rfl, rfl⟩

theorem c_cgt (a b : Int) (a0 : 0 ≤ a) (a1 : a ≤ 65535) (b0 : 0 ≤ b) (b1 : b ≤ 65535) (w : World) : Calls Try.prog 64 #[.int .u16 a, .int .u16 b] w (Ret (D 21 a b) w) := by
  have h : a < b ∨ a = b ∨ b < a := by omega
  rcases h with h | h | h
  · have hD : D 21 a b = ask false := by
      have hq : decide (b < a) = false := by rw [decide_eq_false_iff_not]; omega
      rw [← hq]; simp [D]
    have HD := Lib.hid hD
    clear hD
    go_enter Try.func64, Try.ntmps64
    go_wp2_with fail
    refine (cmp_u_lt a b a0 a1 b0 b1 _ h).mono ?_
    rintro e w' ⟨rfl, rfl⟩
    go_wp2_with fail
    refine (truth_any false _).mono ?_
    rintro e w' ⟨rfl, rfl⟩
    go_wp2_with fail
    go_ret2
    exact ⟨by rw [HD.out]; rfl, rfl⟩
  · obtain rfl := h
    have hD : D 21 a a = ask false := by
      have hq : decide (a < a) = false := by rw [decide_eq_false_iff_not]; omega
      rw [← hq]; simp [D]
    have HD := Lib.hid hD
    clear hD
    go_enter Try.func64, Try.ntmps64
    go_wp2_with fail
    refine (cmp_u_eq a a0 a1 _).mono ?_
    rintro e w' ⟨rfl, rfl⟩
    go_wp2_with fail
    refine (truth_any false _).mono ?_
    rintro e w' ⟨rfl, rfl⟩
    go_wp2_with fail
    go_ret2
    exact ⟨by rw [HD.out]; rfl, rfl⟩
  · have hD : D 21 a b = ask true := by
      have hq : decide (b < a) = true := by rw [decide_eq_true_iff]; omega
      rw [← hq]; simp [D]
    have HD := Lib.hid hD
    clear hD
    go_enter Try.func64, Try.ntmps64
    go_wp2_with fail
    refine (cmp_u_gt a b a0 a1 b0 b1 _ h).mono ?_
    rintro e w' ⟨rfl, rfl⟩
    go_wp2_with fail
    refine (truth_any true _).mono ?_
    rintro e w' ⟨rfl, rfl⟩
    go_wp2_with fail
    go_ret2
    exact ⟨by rw [HD.out]; rfl, rfl⟩

theorem c_cge (a b : Int) (a0 : 0 ≤ a) (a1 : a ≤ 65535) (b0 : 0 ≤ b) (b1 : b ≤ 65535) (w : World) : Calls Try.prog 65 #[.int .u16 a, .int .u16 b] w (Ret (D 22 a b) w) := by
  have h : a < b ∨ a = b ∨ b < a := by omega
  rcases h with h | h | h
  · have hD : D 22 a b = ask false := by
      have hq : decide (b ≤ a) = false := by rw [decide_eq_false_iff_not]; omega
      rw [← hq]; simp [D]
    have HD := Lib.hid hD
    clear hD
    go_enter Try.func65, Try.ntmps65
    go_wp2_with fail
    refine (cmp_u_lt a b a0 a1 b0 b1 _ h).mono ?_
    rintro e w' ⟨rfl, rfl⟩
    go_wp2_with fail
    refine (truth_any false _).mono ?_
    rintro e w' ⟨rfl, rfl⟩
    go_wp2_with fail
    go_ret2
    exact ⟨by rw [HD.out]; rfl, rfl⟩
  · obtain rfl := h
    have hD : D 22 a a = ask true := by
      have hq : decide (a ≤ a) = true := by rw [decide_eq_true_iff]; omega
      rw [← hq]; simp [D]
    have HD := Lib.hid hD
    clear hD
    go_enter Try.func65, Try.ntmps65
    go_wp2_with fail
    refine (cmp_u_eq a a0 a1 _).mono ?_
    rintro e w' ⟨rfl, rfl⟩
    go_wp2_with fail
    refine (truth_any true _).mono ?_
    rintro e w' ⟨rfl, rfl⟩
    go_wp2_with fail
    go_ret2
    exact ⟨by rw [HD.out]; rfl, rfl⟩
  · have hD : D 22 a b = ask true := by
      have hq : decide (b ≤ a) = true := by rw [decide_eq_true_iff]; omega
      rw [← hq]; simp [D]
    have HD := Lib.hid hD
    clear hD
    go_enter Try.func65, Try.ntmps65
    go_wp2_with fail
    refine (cmp_u_gt a b a0 a1 b0 b1 _ h).mono ?_
    rintro e w' ⟨rfl, rfl⟩
    go_wp2_with fail
    refine (truth_any true _).mono ?_
    rintro e w' ⟨rfl, rfl⟩
    go_wp2_with fail
    go_ret2
    exact ⟨by rw [HD.out]; rfl, rfl⟩
end Go.Proofs.Ytcecjjjehhjldaa
