/- Sums, products and divisions of words: plain facts. -/
import Derived.Test.YtgghdllbegkioaaDoorWdH
namespace Go.Proofs.YtgghdllbegkioaaDoor
set_option linter.unusedVariables false

theorem sg_back (a : Int) (h0 : 0 ≤ a) (h1 : a ≤ 65535) : sg a % 65536 = a := by unfold sg; split <;> omega
theorem fS_bd (n : Int) : 0 ≤ (fS n).1 ∧ (fS n).1 ≤ 65535 := by unfold fS; split <;> simp <;> omega
theorem fU_bd (n : Int) : 0 ≤ (fU n).1 ∧ (fU n).1 ≤ 65535 := by unfold fU; split <;> simp <;> omega
theorem fS_ok {n : Int} (h : ((fS n).2 == 0) = true) : -32768 ≤ n ∧ n ≤ 32767 := by
  unfold fS at h; split at h
  · assumption
  · simp at h
theorem fU_ok {n : Int} (h : ((fU n).2 == 0) = true) : 0 ≤ n ∧ n ≤ 65535 := by
  unfold fU at h; split at h
  · assumption
  · simp at h
theorem c1 (a b : Int) : D 1 b a = D 1 a b := by rw [D_1, D_1, Int.add_comm]
theorem c3 (a b : Int) : D 3 b a = D 3 a b := by rw [D_3, D_3, Int.mul_comm]
theorem c8 (a b : Int) : D 8 b a = D 8 a b := by rw [D_8, D_8, Int.add_comm]
theorem c10 (a b : Int) : D 10 b a = D 10 a b := by rw [D_10, D_10, Int.mul_comm]
theorem bd1 (a b : Int) : 0 ≤ (D 1 a b).1 ∧ (D 1 a b).1 ≤ 65535 := by rw [D_1]; exact fS_bd _
theorem bd8 (a b : Int) : 0 ≤ (D 8 a b).1 ∧ (D 8 a b).1 ≤ 65535 := by rw [D_8]; exact fU_bd _

theorem sub1 {a b : Int} (a0 : 0 ≤ a) (a1 : a ≤ 65535) (b0 : 0 ≤ b) (b1 : b ≤ 65535) (h : ((D 1 a b).2 == 0) = true) : D 2 (D 1 a b).1 b = (a, 0) := by
  rw [D_1] at h ⊢
  obtain ⟨h1, h2⟩ := fS_ok h
  obtain ⟨ha, hb⟩ := sg_bd a a0 a1
  rw [fS_in h1 h2, D_2, sg_mod h1 h2, show sg a + sg b - sg b = sg a by omega, fS_in ha hb, sg_back a a0 a1]
theorem sub8 {a b : Int} (a0 : 0 ≤ a) (a1 : a ≤ 65535) (h : ((D 8 a b).2 == 0) = true) : D 9 (D 8 a b).1 b = (a, 0) := by
  rw [D_8] at h ⊢
  obtain ⟨h1, h2⟩ := fU_ok h
  rw [fU_in h1 h2, D_9, show a + b - b = a by omega, fU_in a0 a1]

section
variable {x y : Int}
theorem tm (x y : Int) : x.tmod y + y * x.tdiv y = x := Int.tmod_add_mul_tdiv x y
theorem tm_abs (x y : Int) (hy : y ≠ 0) : (x.tmod y).natAbs < y.natAbs := by
  rw [Int.natAbs_tmod]; exact Nat.mod_lt _ (by omega)
theorem tm_le (x y : Int) : (x.tmod y).natAbs ≤ x.natAbs := by rw [Int.natAbs_tmod]; exact Nat.mod_le _ _
theorem tm_pos (x y : Int) (h : 0 ≤ x) : 0 ≤ x.tmod y := Int.tmod_nonneg y h
theorem tm_neg (x y : Int) (h : x ≤ 0) : x.tmod y ≤ 0 := by
  have h2 := Int.tmod_nonneg y (show 0 ≤ -x by omega)
  rw [Int.neg_tmod] at h2
  omega
end

/-- What is known of a division with a sign. -/
theorem div_s {a b : Int} (a0 : 0 ≤ a) (a1 : a ≤ 65535) (b0 : 0 ≤ b) (b1 : b ≤ 65535) (hb : b ≠ 0) (hsp : ¬ (a = 32768 ∧ b = 65535)) :
    ((D 4 a b).2 == 0) = true ∧ ((D 3 (D 4 a b).1 b).2 == 0) = true ∧ D 1 (D 3 (D 4 a b).1 b).1 (D 5 a b).1 = (a, 0) ∧ (0 ≤ (D 4 a b).1 ∧ (D 4 a b).1 ≤ 65535) ∧ (0 ≤ (D 3 (D 4 a b).1 b).1 ∧ (D 3 (D 4 a b).1 b).1 ≤ 65535) := by
  obtain ⟨sa0, sa1⟩ := sg_bd a a0 a1
  obtain ⟨sb0, sb1⟩ := sg_bd b b0 b1
  have sne := sg_zero b b0 b1 hb
  obtain ⟨q0, q1⟩ := tdiv_bd (sg a) (sg b) sa0 sa1
  have e := tm (sg a) (sg b)
  have l := tm_le (sg a) (sg b)
  have lp := tm_pos (sg a) (sg b)
  have ln := tm_neg (sg a) (sg b)
  have q2 : (sg a).tdiv (sg b) ≤ 32767 := by
    have h : (sg a).tdiv (sg b) ≠ 32768 := by
      intro h
      have hn : ((sg a).tdiv (sg b)).natAbs = (sg a).natAbs / (sg b).natAbs := Int.natAbs_tdiv _ _
      rw [h] at hn
      have h3 : (sg a).natAbs = 32768 := by
        have := Nat.div_le_self (sg a).natAbs (sg b).natAbs
        omega
      have ha : sg a = -32768 := by omega
      have hbn : (sg b).natAbs = 1 := by
        rw [h3] at hn
        by_cases h4 : (sg b).natAbs ≤ 1
        · omega
        · have h5 : 32768 / (sg b).natAbs ≤ 32768 / 2 := Nat.div_le_div_left (by omega) (by omega)
          have h6 : (32768 : Int).natAbs = 32768 := rfl
          omega
      have hb1 : sg b = 1 ∨ sg b = -1 := by omega
      rcases hb1 with hb1 | hb1
      · rw [ha, hb1] at h; simp at h
      · apply hsp
        have h7 := sg_back a a0 a1
        have h8 := sg_back b b0 b1
        rw [ha] at h7; rw [hb1] at h8
        omega
    omega
  have m0 : -32768 ≤ (sg a).tdiv (sg b) * sg b ∧ (sg a).tdiv (sg b) * sg b ≤ 32767 := by
    rw [Int.mul_comm]
    generalize sg b * (sg a).tdiv (sg b) = m at *
    omega
  rw [D_4, if_neg hb, fS_in q0 q2, D_3, sg_mod q0 q2, fS_in m0.1 m0.2, D_5, if_neg hb]
  have r0 : -32768 ≤ (sg a).tmod (sg b) ∧ (sg a).tmod (sg b) ≤ 32767 := by omega
  rw [fS_in r0.1 r0.2]
  refine ⟨rfl, rfl, ?_, ⟨by simp only; omega, by simp only; omega⟩, ⟨by simp only; omega, by simp only; omega⟩⟩
  rw [D_1, sg_mod m0.1 m0.2, sg_mod r0.1 r0.2, show (sg a).tdiv (sg b) * sg b + (sg a).tmod (sg b) = sg a by rw [Int.mul_comm]; omega, fS_in sa0 sa1, sg_back a a0 a1]

theorem rems_s {a b : Int} (a0 : 0 ≤ a) (a1 : a ≤ 65535) (b0 : 0 ≤ b) (b1 : b ≤ 65535) (hb : b ≠ 0) :
    ((D 5 a b).2 == 0) = true ∧ (0 ≤ (D 5 a b).1 ∧ (D 5 a b).1 ≤ 65535) ∧ (sg (D 5 a b).1).natAbs < (sg b).natAbs := by
  obtain ⟨sa0, sa1⟩ := sg_bd a a0 a1
  have sne := sg_zero b b0 b1 hb
  have l := tm_le (sg a) (sg b)
  have l2 := tm_abs (sg a) (sg b) sne
  have lp := tm_pos (sg a) (sg b)
  have ln := tm_neg (sg a) (sg b)
  have r0 : -32768 ≤ (sg a).tmod (sg b) ∧ (sg a).tmod (sg b) ≤ 32767 := by omega
  rw [D_5, if_neg hb, fS_in r0.1 r0.2]
  refine ⟨rfl, ⟨by simp only; omega, by simp only; omega⟩, ?_⟩
  simp only
  rw [sg_mod r0.1 r0.2]
  exact l2

theorem div_u {a b : Int} (a0 : 0 ≤ a) (a1 : a ≤ 65535) (b0 : 0 ≤ b) (b1 : b ≤ 65535) (hb : b ≠ 0) :
    D 11 a b = (a / b, 0) ∧ D 12 a b = (a % b, 0) ∧ D 10 (a / b) b = (a / b * b, 0) ∧ D 8 (a / b * b) (a % b) = (a, 0) ∧ (0 ≤ a / b ∧ a / b ≤ 65535) ∧ (0 ≤ a / b * b ∧ a / b * b ≤ 65535) ∧ (0 ≤ a % b ∧ a % b < b) := by
  have q0 : 0 ≤ a / b := Int.ediv_nonneg a0 b0
  have q1 : a / b ≤ 65535 := by have := Int.ediv_le_self b a0; omega
  have r0 : 0 ≤ a % b := Int.emod_nonneg a hb
  have r1 : a % b < b := Int.emod_lt_of_pos a (by omega)
  have e : b * (a / b) + a % b = a := Int.mul_ediv_add_emod a b
  have m0 : 0 ≤ a / b * b := Int.mul_nonneg q0 b0
  rw [Int.mul_comm] at e
  have m1 : a / b * b ≤ 65535 := by omega
  refine ⟨by rw [D_11, if_neg hb], by rw [D_12, if_neg hb], by rw [D_10, fU_in m0 m1], ?_, ⟨q0, q1⟩, ⟨m0, m1⟩, ⟨r0, r1⟩⟩
  rw [D_8, e, fU_in a0 a1]
end Go.Proofs.YtgghdllbegkioaaDoor
