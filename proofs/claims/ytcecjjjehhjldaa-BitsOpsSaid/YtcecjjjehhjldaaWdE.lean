/- The other leaf functions of package word, walked: division, equality, sets. -/
import Derived.Test.YtcecjjjehhjldaaWdC
import Derived.Outline
import Derived.LoopTactic
namespace Go.Proofs.Ytcecjjjehhjldaa
open Go.RowKit
set_option maxHeartbeats 400000
set_option linter.unusedVariables false

theorem quo_s (a b : Int) (a0 : 0 ≤ a) (a1 : a ≤ 65535) (b0 : 0 ≤ b) (b1 : b ≤ 65535) (w : World) : Calls Try.prog 39 #[.int .u16 a, .int .u16 b] w (Ret (D 4 a b) w) := by
  by_cases hb : b = 0
  · subst hb
    go_enter Try.func39, Try.ntmps39
    go_wp2_with fail
    go_ret2
    exact ⟨by simp [D], rfl⟩
  · have hne : (b == 0) = false := beq_eq_false_iff_ne.2 hb
    have HD : Hid (D 4 a b = fS ((sg a).tdiv (sg b))) := Lib.hid (by simp [D, hb])
    obtain ⟨sa0, sa1⟩ := sg_bd a a0 a1
    obtain ⟨sb0, sb1⟩ := sg_bd b b0 b1
    have sne := sg_zero b b0 b1 hb
    have sne2 : (sg b == 0) = false := beq_eq_false_iff_ne.2 sne
    obtain ⟨q0, q1⟩ := tdiv_bd (sg a) (sg b) sa0 sa1
    clear hb
    go_enter Try.func39, Try.ntmps39
    go_wp2_with fail
    refine (value_s a a0 a1 _).mono ?_
    rintro e w' ⟨rfl, rfl⟩
    go_wp2_with fail
    refine (value_s b b0 b1 _).mono ?_
    rintro e w' ⟨rfl, rfl⟩
    go_wp2_with fail
    refine (fit_s _ (by omega) (by omega) _).mono ?_
    rintro e w' ⟨rfl, rfl⟩
    go_wp2_with fail
    go_ret2
    exact ⟨by rw [HD.out]; rfl, rfl⟩

theorem rem_s (a b : Int) (a0 : 0 ≤ a) (a1 : a ≤ 65535) (b0 : 0 ≤ b) (b1 : b ≤ 65535) (w : World) : Calls Try.prog 41 #[.int .u16 a, .int .u16 b] w (Ret (D 5 a b) w) := by
  by_cases hb : b = 0
  · subst hb
    go_enter Try.func41, Try.ntmps41
    go_wp2_with fail
    go_ret2
    exact ⟨by simp [D], rfl⟩
  · have hne : (b == 0) = false := beq_eq_false_iff_ne.2 hb
    have HD : Hid (D 5 a b = fS ((sg a).tmod (sg b))) := Lib.hid (by simp [D, hb])
    obtain ⟨sa0, sa1⟩ := sg_bd a a0 a1
    obtain ⟨sb0, sb1⟩ := sg_bd b b0 b1
    have sne := sg_zero b b0 b1 hb
    have sne2 : (sg b == 0) = false := beq_eq_false_iff_ne.2 sne
    obtain ⟨q0, q1⟩ := tmod_bd (sg a) (sg b) sa0 sa1
    clear hb
    go_enter Try.func41, Try.ntmps41
    go_wp2_with fail
    refine (value_s a a0 a1 _).mono ?_
    rintro e w' ⟨rfl, rfl⟩
    go_wp2_with fail
    refine (value_s b b0 b1 _).mono ?_
    rintro e w' ⟨rfl, rfl⟩
    go_wp2_with fail
    refine (fit_s _ (by omega) (by omega) _).mono ?_
    rintro e w' ⟨rfl, rfl⟩
    go_wp2_with fail
    go_ret2
    exact ⟨by rw [HD.out]; rfl, rfl⟩

theorem quo_u (a b : Int) (a0 : 0 ≤ a) (a1 : a ≤ 65535) (b0 : 0 ≤ b) (b1 : b ≤ 65535) (w : World) : Calls Try.prog 50 #[.int .u16 a, .int .u16 b] w (Ret (D 11 a b) w) := by
  by_cases hb : b = 0
  · subst hb
    go_enter Try.func50, Try.ntmps50
    go_wp2_with fail
    go_ret2
    exact ⟨by simp [D], rfl⟩
  · have hne : (b == 0) = false := beq_eq_false_iff_ne.2 hb
    have HD : Hid (D 11 a b = (a / b, 0)) := Lib.hid (by simp [D, hb])
    have q0 : 0 ≤ a / b := Int.ediv_nonneg a0 b0
    have q1 : a / b ≤ 65535 := by have := Int.ediv_le_self b a0; omega
    have bp : 1 ≤ b := by omega
    clear hb
    go_enter Try.func50, Try.ntmps50
    go_wp2_with fail
    refine (value_u a a0 a1 _).mono ?_
    rintro e w' ⟨rfl, rfl⟩
    go_wp2_with fail
    refine (value_u b b0 b1 _).mono ?_
    rintro e w' ⟨rfl, rfl⟩
    go_wp2_with fail
    refine (fit_u _ (by omega) (by omega) _).mono ?_
    rintro e w' ⟨rfl, rfl⟩
    go_wp2_with fail
    go_ret2
    exact ⟨by rw [HD.out]; simp [fU, q0, q1], rfl⟩

theorem rem_u (a b : Int) (a0 : 0 ≤ a) (a1 : a ≤ 65535) (b0 : 0 ≤ b) (b1 : b ≤ 65535) (w : World) : Calls Try.prog 52 #[.int .u16 a, .int .u16 b] w (Ret (D 12 a b) w) := by
  by_cases hb : b = 0
  · subst hb
    go_enter Try.func52, Try.ntmps52
    go_wp2_with fail
    go_ret2
    exact ⟨by simp [D], rfl⟩
  · have hne : (b == 0) = false := beq_eq_false_iff_ne.2 hb
    have HD : Hid (D 12 a b = (a % b, 0)) := Lib.hid (by simp [D, hb])
    have q0 : 0 ≤ a % b := Int.emod_nonneg a hb
    have q1 : a % b ≤ 65535 := by have := Int.emod_lt_of_pos a (show 0 < b by omega); omega
    have bp : 1 ≤ b := by omega
    clear hb
    go_enter Try.func52, Try.ntmps52
    go_wp2_with fail
    refine (value_u a a0 a1 _).mono ?_
    rintro e w' ⟨rfl, rfl⟩
    go_wp2_with fail
    refine (value_u b b0 b1 _).mono ?_
    rintro e w' ⟨rfl, rfl⟩
    go_wp2_with fail
    refine (fit_u _ (by omega) (by omega) _).mono ?_
    rintro e w' ⟨rfl, rfl⟩
    go_wp2_with fail
    go_ret2
    exact ⟨by rw [HD.out]; simp [fU, q0, q1], rfl⟩

theorem c_idiv (a b : Int) (a0 : 0 ≤ a) (a1 : a ≤ 65535) (b0 : 0 ≤ b) (b1 : b ≤ 65535) (w : World) : Calls Try.prog 38 #[.int .u16 a, .int .u16 b] w (Ret (D 4 a b) w) := by
  go_enter Try.func38, Try.ntmps38
  go_wp2_with fail
  refine (quo_s a b a0 a1 b0 b1 _).mono ?_
  rintro e w' ⟨rfl, rfl⟩
  go_wp2_with fail
  go_ret2
  exact ⟨rfl, rfl⟩

theorem c_imod (a b : Int) (a0 : 0 ≤ a) (a1 : a ≤ 65535) (b0 : 0 ≤ b) (b1 : b ≤ 65535) (w : World) : Calls Try.prog 40 #[.int .u16 a, .int .u16 b] w (Ret (D 5 a b) w) := by
  go_enter Try.func40, Try.ntmps40
  go_wp2_with fail
  refine (rem_s a b a0 a1 b0 b1 _).mono ?_
  rintro e w' ⟨rfl, rfl⟩
  go_wp2_with fail
  go_ret2
  exact ⟨rfl, rfl⟩

theorem c_cdiv (a b : Int) (a0 : 0 ≤ a) (a1 : a ≤ 65535) (b0 : 0 ≤ b) (b1 : b ≤ 65535) (w : World) : Calls Try.prog 49 #[.int .u16 a, .int .u16 b] w (Ret (D 11 a b) w) := by
  go_enter Try.func49, Try.ntmps49
  go_wp2_with fail
  refine (quo_u a b a0 a1 b0 b1 _).mono ?_
  rintro e w' ⟨rfl, rfl⟩
  go_wp2_with fail
  go_ret2
  exact ⟨rfl, rfl⟩

theorem c_cmod (a b : Int) (a0 : 0 ≤ a) (a1 : a ≤ 65535) (b0 : 0 ≤ b) (b1 : b ≤ 65535) (w : World) : Calls Try.prog 51 #[.int .u16 a, .int .u16 b] w (Ret (D 12 a b) w) := by
  go_enter Try.func51, Try.ntmps51
  go_wp2_with fail
  refine (rem_u a b a0 a1 b0 b1 _).mono ?_
  rintro e w' ⟨rfl, rfl⟩
  go_wp2_with fail
  go_ret2
  exact ⟨rfl, rfl⟩

theorem c_iabs (a b : Int) (a0 : 0 ≤ a) (a1 : a ≤ 65535) (b0 : 0 ≤ b) (b1 : b ≤ 65535) (w : World) : Calls Try.prog 43 #[.int .u16 a, .int .u16 b] w (Ret (D 7 a b) w) := by
  obtain ⟨sa0, sa1⟩ := sg_bd a a0 a1
  by_cases hs : sg a < 0
  all_goals
    have hs2 := Lib.hid hs
    have HD : Hid (D 7 a b = fS (if sg a < 0 then -(sg a) else sg a)) := Lib.hid (by simp [D])
    go_enter Try.func43, Try.ntmps43
    go_wp2_with fail
    refine (value_s a a0 a1 _).mono ?_
    rintro e w' ⟨rfl, rfl⟩
    go_wp2_with fail
    refine (fit_s _ (by omega) (by omega) _).mono ?_
    rintro e w' ⟨rfl, rfl⟩
    go_wp2_with fail
    go_ret2
    exact ⟨by rw [HD.out]; first | (rw [if_pos (show sg a < 0 by have := hs2.out; omega)]; rfl) | (rw [if_neg (show ¬ sg a < 0 by have := hs2.out; omega)]; rfl), rfl⟩

theorem c_eq (a b : Int) (a0 : 0 ≤ a) (a1 : a ≤ 65535) (b0 : 0 ≤ b) (b1 : b ≤ 65535) (w : World) : Calls Try.prog 53 #[.int .u16 a, .int .u16 b] w (Ret (D 13 a b) w) := by
  have HD : Hid (D 13 a b = ask (decide (a = b))) := Lib.hid (by simp [D])
  go_enter Try.func53, Try.ntmps53
  go_wp2_with fail
  refine (truth_any _ _).mono ?_
  rintro e w' ⟨rfl, rfl⟩
  go_wp2_with fail
  go_ret2
  exact ⟨ret_of (p := ask (a == b)) (by rw [HD.out, eq_dec a b]), rfl⟩

theorem c_ne (a b : Int) (a0 : 0 ≤ a) (a1 : a ≤ 65535) (b0 : 0 ≤ b) (b1 : b ≤ 65535) (w : World) : Calls Try.prog 55 #[.int .u16 a, .int .u16 b] w (Ret (D 14 a b) w) := by
  have HD : Hid (D 14 a b = ask (decide (a ≠ b))) := Lib.hid (by simp [D])
  go_enter Try.func55, Try.ntmps55
  go_wp2_with fail
  refine (truth_any _ _).mono ?_
  rintro e w' ⟨rfl, rfl⟩
  go_wp2_with fail
  go_ret2
  exact ⟨ret_of (p := ask (a != b)) (by rw [HD.out, ne_dec a b]), rfl⟩

theorem c_not (a b : Int) (a0 : 0 ≤ a) (a1 : a ≤ 65535) (b0 : 0 ≤ b) (b1 : b ≤ 65535) (w : World) : Calls Try.prog 66 #[.int .u16 a, .int .u16 b] w (Ret (D 23 a b) w) := by
  have HD : Hid (D 23 a b = ask (decide (a = 0))) := Lib.hid (by simp [D])
  go_enter Try.func66, Try.ntmps66
  go_wp2_with fail
  refine (truth_any _ _).mono ?_
  rintro e w' ⟨rfl, rfl⟩
  go_wp2_with fail
  go_ret2
  exact ⟨ret_of (p := ask (a == 0)) (by rw [HD.out, eq_dec a 0]), rfl⟩

theorem c_or (a b : Int) (a0 : 0 ≤ a) (a1 : a ≤ 65535) (b0 : 0 ≤ b) (b1 : b ≤ 65535) (w : World) : Calls Try.prog 67 #[.int .u16 a, .int .u16 b] w (Ret (D 24 a b) w) := by
  have HB := Lib.hid (u16_or a b a0 (by omega) b0 (by omega))
  go_enter Try.func67, Try.ntmps67
  go_wp2_with fail
  go_ret2
  exact ⟨by simp only [go_sem]; rw [HB.out]; simp [D], rfl⟩

theorem c_andn (a b : Int) (a0 : 0 ≤ a) (a1 : a ≤ 65535) (b0 : 0 ≤ b) (b1 : b ≤ 65535) (w : World) : Calls Try.prog 68 #[.int .u16 a, .int .u16 b] w (Ret (D 25 a b) w) := by
  have HB := Lib.hid (u16_andNot a b a0 (by omega) b0 (by omega))
  go_enter Try.func68, Try.ntmps68
  go_wp2_with fail
  go_ret2
  exact ⟨by simp only [go_sem]; rw [HB.out]; simp [D], rfl⟩

theorem c_and (a b : Int) (a0 : 0 ≤ a) (a1 : a ≤ 65535) (b0 : 0 ≤ b) (b1 : b ≤ 65535) (w : World) : Calls Try.prog 69 #[.int .u16 a, .int .u16 b] w (Ret (D 26 a b) w) := by
  have HB := Lib.hid (u16_and a b a0 (by omega) b0 (by omega))
  go_enter Try.func69, Try.ntmps69
  go_wp2_with fail
  go_ret2
  exact ⟨by simp only [go_sem]; rw [HB.out]; simp [D], rfl⟩

theorem c_xor (a b : Int) (a0 : 0 ≤ a) (a1 : a ≤ 65535) (b0 : 0 ≤ b) (b1 : b ≤ 65535) (w : World) : Calls Try.prog 70 #[.int .u16 a, .int .u16 b] w (Ret (D 27 a b) w) := by
  have HB := Lib.hid (u16_xor a b a0 (by omega) b0 (by omega))
  go_enter Try.func70, Try.ntmps70
  go_wp2_with fail
  go_ret2
  exact ⟨by simp only [go_sem]; rw [HB.out]; simp [D], rfl⟩

theorem c_sub (a b : Int) (a0 : 0 ≤ a) (a1 : a ≤ 65535) (b0 : 0 ≤ b) (b1 : b ≤ 65535) (w : World) : Calls Try.prog 72 #[.int .u16 a, .int .u16 b] w (Ret (D 29 a b) w) := by
  have HB := Lib.hid (u16_andNot a b a0 (by omega) b0 (by omega))
  have HD : Hid (D 29 a b = ask (decide (a.toNat &&& (65535 - b.toNat) = 0))) := Lib.hid (by simp [D])
  go_enter Try.func72, Try.ntmps72
  go_wp2_with fail
  refine (truth_any _ _).mono ?_
  rintro e w' ⟨rfl, rfl⟩
  go_wp2_with fail
  go_ret2
  exact ⟨ret_of (p := ask (bits BinOp.andNot IntKind.u16 a b == 0)) (by rw [HD.out, HB.out, eq0_nat]), rfl⟩

theorem c_in (a b : Int) (a0 : 0 ≤ a) (a1 : a ≤ 65535) (b0 : 0 ≤ b) (b1 : b ≤ 65535) (w : World) : Calls Try.prog 71 #[.int .u16 a, .int .u16 b] w (Ret (D 28 a b) w) := by
  have HD : Hid (D 28 a b = ask (bitAt a b)) := Lib.hid (by simp [D])
  by_cases h : a ≤ 15
  all_goals
    have H2 := Lib.hid h
    go_enter Try.func71, Try.ntmps71
    go_wp2_with fail
    refine (truth_any _ _).mono ?_
    rintro e w' ⟨rfl, rfl⟩
    go_wp2_with fail
    go_ret2
    first
      | exact ⟨ret_of (p := ask (bits BinOp.and IntKind.u16 (b / 2 ^ a.toNat) 1 == 1)) (by rw [HD.out, bit_of b a b0 b1 a0]; simp [bitAt, H2.out]), rfl⟩
      | exact ⟨ret_of (p := ask false) (by rw [HD.out]; simp [bitAt, show ¬ a ≤ 15 by have := H2.out; omega]), rfl⟩

theorem row_any (a b : Int) (a0 : 0 ≤ a) (a1 : a ≤ 65535) (b0 : 0 ≤ b) (b1 : b ≤ 65535) (w : World) : Calls Try.prog 74 #[.int .u16 a, .int .u16 b] w (Ret (rowP a b) w) := by
  by_cases h : 15 < a ∨ 15 < b
  · have HD : Hid (rowP a b = (0, 2)) := Lib.hid (by simp [rowP, h])
    rcases h with h | h
    · go_enter Try.func74, Try.ntmps74
      go_wp2_with fail
      go_ret2
      exact ⟨ret_of (p := (0, 2)) HD.out.symm, rfl⟩
    · by_cases h2 : 15 < a
      all_goals
        go_enter Try.func74, Try.ntmps74
        go_wp2_with fail
        go_ret2
        exact ⟨ret_of (p := (0, 2)) HD.out.symm, rfl⟩
  · have ha : a ≤ 15 := by omega
    have hb : b ≤ 15 := by omega
    have HD : Hid (rowP a b = (((rowN a.toNat b.toNat : Nat) : Int), 0)) := Lib.hid (by simp only [rowP, if_neg h])
    clear h
    go_enter Try.func74, Try.ntmps74
    go_wp2_with fail
    obtain ⟨A, rfl⟩ := Int.eq_ofNat_of_zero_le a0
    obtain ⟨B, rfl⟩ := Int.eq_ofNat_of_zero_le b0
    go_loop [6, 7] (fun s i => ∃ k : Nat, A ≤ k ∧ k ≤ 16 ∧ (B < A → k = A) ∧ (A ≤ B → k ≤ B + 1) ∧ i = .int .u16 k ∧ s = .int .u16 (part A k)) (fun _ i => (16 - intOf i).toNat)
    case atStart => exact ⟨A, by omega, by omega, fun _ => rfl, fun _ => by omega, rfl, by rw [part_self]; rfl⟩
    case round =>
      obtain ⟨k, k1, k2, k3, k4, rfl, rfl⟩ := hrel
      by_cases hkb : k ≤ B
      · have hst := Lib.hid (part_step A k (by omega) k1)
        have k15 : k ≤ 15 := by omega
        go_wp2_with fail
        go_round
        case rel => exact ⟨k + 1, by omega, by omega, fun h => by omega, fun _ => by omega, by go_num, by rw [hst.out]⟩
        case measure => simp [intOf]; omega
      · go_wp2_with fail
        go_ret2
        refine ⟨ret_of (p := ((part A k : Nat), 0)) ?_, rfl⟩
        rw [HD.out]
        simp only [Int.toNat_natCast]
        by_cases hab : A ≤ B
        · rw [rowN_of A B hab, show k = B + 1 by omega]
        · rw [rowN_none A B (by omega), show k = A by omega, part_self]

theorem c_one (a b : Int) (a0 : 0 ≤ a) (a1 : a ≤ 65535) (b0 : 0 ≤ b) (b1 : b ≤ 65535) (w : World) : Calls Try.prog 73 #[.int .u16 a, .int .u16 b] w (Ret (D 30 a b) w) := by
  have HD : Hid (D 30 a b = rowP a a) := Lib.hid (by simp [D])
  go_enter Try.func73, Try.ntmps73
  go_wp2_with fail
  refine (row_any a a a0 a1 a0 a1 _).mono ?_
  rintro e w' ⟨rfl, rfl⟩
  go_wp2_with fail
  go_ret2
  exact ⟨ret_of HD.out.symm, rfl⟩

theorem c_row (a b : Int) (a0 : 0 ≤ a) (a1 : a ≤ 65535) (b0 : 0 ≤ b) (b1 : b ≤ 65535) (w : World) : Calls Try.prog 75 #[.int .u16 a, .int .u16 b] w (Ret (D 31 a b) w) := by
  have HD : Hid (D 31 a b = rowP a b) := Lib.hid (by simp [D])
  go_enter Try.func75, Try.ntmps75
  go_wp2_with fail
  refine (row_any a b a0 a1 b0 b1 _).mono ?_
  rintro e w' ⟨rfl, rfl⟩
  go_wp2_with fail
  go_ret2
  exact ⟨ret_of HD.out.symm, rfl⟩
end Go.Proofs.Ytcecjjjehhjldaa
