/- Words are sets: plain facts on what the set ops make. -/
import Derived.Test.YtgghdllbegkioaaDoorWdH
namespace Go.Proofs.YtgghdllbegkioaaDoor
set_option linter.unusedVariables false

theorem not16 (B : Nat) (hB : B ≤ 65535) (i : Nat) : (65535 - B).testBit i = (decide (i < 16) && !B.testBit i) := by
  have h := Nat.testBit_two_pow_sub_succ (show B < 2 ^ 16 by omega) i
  rw [show 65535 - B = 2 ^ 16 - (B + 1) by omega]
  exact h
theorem hi16 (A : Nat) (hA : A ≤ 65535) (i : Nat) (hi : 16 ≤ i) : A.testBit i = false :=
  Nat.testBit_lt_two_pow (Nat.lt_of_lt_of_le (show A < 2 ^ 16 by omega) (Nat.pow_le_pow_right (by omega) hi))
theorem both_nat (A B : Nat) : (A ^^^ B) ||| (A &&& B) = A ||| B := by
  apply Nat.eq_of_testBit_eq
  intro i
  simp only [Nat.testBit_or, Nat.testBit_xor, Nat.testBit_and]
  cases A.testBit i <;> cases B.testBit i <;> rfl
theorem back_nat (A B : Nat) (hA : A ≤ 65535) (hB : B ≤ 65535) : (A &&& (65535 - B)) ||| (A &&& B) = A := by
  apply Nat.eq_of_testBit_eq
  intro i
  simp only [Nat.testBit_or, Nat.testBit_and, not16 B hB]
  by_cases hi : i < 16
  · simp only [hi, decide_true, Bool.true_and]
    cases A.testBit i <;> cases B.testBit i <;> rfl
  · rw [hi16 A hA i (by omega)]; rfl
theorem none_nat (A B : Nat) (hB : B ≤ 65535) : (A &&& (65535 - B)) &&& B = 0 := by
  apply Nat.eq_of_testBit_eq
  intro i
  simp only [Nat.testBit_and, not16 B hB, Nat.zero_testBit]
  cases A.testBit i <;> cases B.testBit i <;> simp
theorem part_nat (A B : Nat) (hA : A ≤ 65535) (hB : B ≤ 65535) : A &&& (65535 - B) = 0 ↔ A &&& B = A := by
  constructor
  · intro h
    have := back_nat A B hA hB
    rw [h] at this
    simpa using this
  · intro h
    have := none_nat A B hB
    rw [Nat.and_assoc, Nat.and_comm (65535 - B) B, ← Nat.and_assoc, h] at this
    exact this
theorem and_le16 (A C : Nat) (hA : A ≤ 65535) : A &&& C ≤ 65535 := Nat.le_trans Nat.and_le_left hA
theorem or_le16 (A B : Nat) (hA : A ≤ 65535) (hB : B ≤ 65535) : A ||| B ≤ 65535 := by
  have := Nat.or_lt_two_pow (show A < 2 ^ 16 by omega) (show B < 2 ^ 16 by omega)
  omega
theorem xor_le16 (A B : Nat) (hA : A ≤ 65535) (hB : B ≤ 65535) : A ^^^ B ≤ 65535 := by
  have := Nat.xor_lt_two_pow (show A < 2 ^ 16 by omega) (show B < 2 ^ 16 by omega)
  omega

theorem bd24 {a b : Int} (a0 : 0 ≤ a) (a1 : a ≤ 65535) (b0 : 0 ≤ b) (b1 : b ≤ 65535) : 0 ≤ (D 24 a b).1 ∧ (D 24 a b).1 ≤ 65535 := by
  rw [D_24]; have := or_le16 a.toNat b.toNat (by omega) (by omega); simp only; omega
theorem bd25 {a b : Int} (a0 : 0 ≤ a) (a1 : a ≤ 65535) (b0 : 0 ≤ b) (b1 : b ≤ 65535) : 0 ≤ (D 25 a b).1 ∧ (D 25 a b).1 ≤ 65535 := by
  rw [D_25]; have := and_le16 a.toNat (65535 - b.toNat) (by omega); simp only; omega
theorem bd26 {a b : Int} (a0 : 0 ≤ a) (a1 : a ≤ 65535) (b0 : 0 ≤ b) (b1 : b ≤ 65535) : 0 ≤ (D 26 a b).1 ∧ (D 26 a b).1 ≤ 65535 := by
  rw [D_26]; have := and_le16 a.toNat b.toNat (by omega); simp only; omega
theorem bd27 {a b : Int} (a0 : 0 ≤ a) (a1 : a ≤ 65535) (b0 : 0 ≤ b) (b1 : b ≤ 65535) : 0 ≤ (D 27 a b).1 ∧ (D 27 a b).1 ≤ 65535 := by
  rw [D_27]; have := xor_le16 a.toNat b.toNat (by omega) (by omega); simp only; omega
theorem f_both {a b : Int} (a0 : 0 ≤ a) (a1 : a ≤ 65535) (b0 : 0 ≤ b) (b1 : b ≤ 65535) : (D 24 (D 27 a b).1 (D 26 a b).1).1 = (D 24 a b).1 := by
  rw [D_24, D_24, D_27, D_26]; simp only [Int.toNat_natCast, both_nat]
theorem f_back {a b : Int} (a0 : 0 ≤ a) (a1 : a ≤ 65535) (b0 : 0 ≤ b) (b1 : b ≤ 65535) : (D 24 (D 25 a b).1 (D 26 a b).1).1 = a := by
  rw [D_24, D_25, D_26]; simp only [Int.toNat_natCast, back_nat a.toNat b.toNat (by omega) (by omega)]; omega
theorem f_none {a b : Int} (a0 : 0 ≤ a) (a1 : a ≤ 65535) (b0 : 0 ≤ b) (b1 : b ≤ 65535) : (D 26 (D 25 a b).1 b).1 = 0 := by
  rw [D_26, D_25]; simp only [Int.toNat_natCast, none_nat a.toNat b.toNat (by omega)]; rfl
theorem f_part1 {a b : Int} (a0 : 0 ≤ a) (a1 : a ≤ 65535) (b0 : 0 ≤ b) (b1 : b ≤ 65535) : ((D 29 a b).1 == 1) = ((D 25 a b).1 == 0) := by
  rw [D_29, D_25]
  by_cases h : a.toNat &&& (65535 - b.toNat) = 0
  · simp [ask, h]
  · have h2 : ¬ (((a.toNat &&& (65535 - b.toNat) : Nat) : Int) = 0) := by omega
    simp only [ask, h, decide_false, beq_eq_false_iff_ne.2 h2]; rfl
theorem f_part2 {a b : Int} (a0 : 0 ≤ a) (a1 : a ≤ 65535) (b0 : 0 ≤ b) (b1 : b ≤ 65535) : ((D 29 a b).1 == 1) = ((D 26 a b).1 == a) := by
  rw [D_29, D_26]
  have hp := part_nat a.toNat b.toNat (by omega) (by omega)
  by_cases h : a.toNat &&& (65535 - b.toNat) = 0
  · have h2 : (((a.toNat &&& b.toNat : Nat) : Int) = a) := by rw [hp.1 h]; omega
    simp [ask, h, h2]
  · have h2 : ¬ (((a.toNat &&& b.toNat : Nat) : Int) = a) := fun e => h (hp.2 (by omega))
    simp only [ask, h, decide_false, beq_eq_false_iff_ne.2 h2]; rfl

theorem one_all : ∀ k : Fin 16, rowN k.val k.val = 2 ^ k.val := by decide +kernel
theorem row_all : ∀ k p q : Fin 16, (rowN p.val q.val).testBit k.val = (decide (p.val ≤ k.val) && decide (k.val ≤ q.val)) := by decide +kernel
theorem rowN_le : ∀ p q : Fin 16, rowN p.val q.val ≤ 65535 := by decide +kernel
theorem pow_and (k A : Nat) (hA : A ≤ 65535) (hk : k ≤ 15) : (2 ^ k &&& (65535 - A) = 0) ↔ A.testBit k = true := by
  constructor
  · intro h
    have h2 := congrArg (fun n => n.testBit k) h
    simp only [Nat.testBit_and, Nat.testBit_two_pow, not16 A hA, Nat.zero_testBit, show k < 16 by omega, decide_true, Bool.true_and] at h2
    cases hb : A.testBit k
    · rw [hb] at h2; simp at h2
    · rfl
  · intro h
    apply Nat.eq_of_testBit_eq
    intro i
    simp only [Nat.testBit_and, Nat.testBit_two_pow, not16 A hA, Nat.zero_testBit]
    by_cases hi : k = i
    · subst hi; rw [h]; simp
    · simp [hi]
theorem rowP_in (p q : Int) (hp : p ≤ 15) (hq : q ≤ 15) : rowP p q = (((rowN p.toNat q.toNat : Nat) : Int), 0) := by unfold rowP; rw [if_neg (by omega)]
theorem rowP_out (p q : Int) (h : 16 ≤ p) : rowP p q = (0, 2) := by unfold rowP; rw [if_pos (by omega)]
theorem f_one {k : Int} (k0 : 0 ≤ k) (k1 : k ≤ 15) : D 30 k 0 = (((2 ^ k.toNat : Nat) : Int), 0) := by
  rw [D_30, rowP_in k k k1 k1, one_all ⟨k.toNat, by omega⟩]
theorem one_bd {k : Int} (k0 : 0 ≤ k) (k1 : k ≤ 15) : 0 ≤ (D 30 k 0).1 ∧ (D 30 k 0).1 ≤ 65535 := by
  rw [f_one k0 k1]; have := pow_lt k.toNat (by omega); simp only; generalize 2 ^ k.toNat = m at *; omega
theorem f_in {k a : Int} (k0 : 0 ≤ k) (k1 : k ≤ 15) (a0 : 0 ≤ a) (a1 : a ≤ 65535) : (D 29 (D 30 k 0).1 a).1 = (D 28 k a).1 := by
  rw [f_one k0 k1, D_29, D_28]
  simp only [Int.toNat_natCast]
  have h := pow_and k.toNat a.toNat (by omega) (by omega)
  unfold bitAt
  by_cases hb : a.toNat.testBit k.toNat = true
  · simp [ask, h.2 hb, hb, k1]
  · have hb' : a.toNat.testBit k.toNat = false := by simpa using hb
    have hn : ¬ (2 ^ k.toNat &&& (65535 - a.toNat) = 0) := fun e => hb (h.1 e)
    simp only [ask, hn, hb', decide_false, Bool.and_false]
theorem f_row {p q : Int} (p0 : 0 ≤ p) (p1 : p ≤ 15) (q0 : 0 ≤ q) (q1 : q ≤ 15) : ((D 31 p q).2 == 0) = true := by
  rw [D_31, rowP_in p q p1 q1]; rfl
theorem row_bd {p q : Int} (p0 : 0 ≤ p) (p1 : p ≤ 15) (q0 : 0 ≤ q) (q1 : q ≤ 15) : 0 ≤ (D 31 p q).1 ∧ (D 31 p q).1 ≤ 65535 := by
  rw [D_31, rowP_in p q p1 q1]; have := rowN_le ⟨p.toNat, by omega⟩ ⟨q.toNat, by omega⟩; simp only; simp only at this; omega
theorem f_inside {k p q : Int} (k0 : 0 ≤ k) (k1 : k ≤ 15) (p0 : 0 ≤ p) (p1 : p ≤ 15) (q0 : 0 ≤ q) (q1 : q ≤ 15) : ((D 28 k (D 31 p q).1).1 == 1) = (decide (p ≤ k) && decide (k ≤ q)) := by
  rw [D_28, D_31, rowP_in p q p1 q1]
  unfold bitAt
  simp only [Int.toNat_natCast, k1, decide_true, Bool.true_and]
  have h := row_all ⟨k.toNat, by omega⟩ ⟨p.toNat, by omega⟩ ⟨q.toNat, by omega⟩
  simp only at h
  rw [h, show decide (p.toNat ≤ k.toNat) = decide (p ≤ k) by rw [decide_eq_decide]; omega, show decide (k.toNat ≤ q.toNat) = decide (k ≤ q) by rw [decide_eq_decide]; omega]
  cases (decide (p ≤ k) && decide (k ≤ q)) <;> rfl
theorem f_far {m : Int} (hm : 16 ≤ m) : D 30 m 0 = (0, 2) := by rw [D_30, rowP_out m m hm]
theorem f_out {m a : Int} (hm : 16 ≤ m) : D 28 m a = (0, 0) := by
  rw [D_28]; unfold bitAt; simp [ask, show ¬ m ≤ 15 by omega]
end Go.Proofs.YtgghdllbegkioaaDoor
