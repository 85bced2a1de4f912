/- Package konst: numbers of values. -/
import Derived.Test.YtpnohljhpoildaaKnL
namespace Go.Proofs.Ytpnohljhpoildaa
open Go.RowKit
set_option maxHeartbeats 1000000
set_option maxRecDepth 100000
set_option linter.unusedVariables false
set_option linter.unusedSimpArgs false

theorem nb16 (B : Nat) (hB : B < 2 ^ 16) (i : Nat) : (65535 - B).testBit i = (decide (i < 16) && !B.testBit i) := not_bit 16 B hB i
theorem hi16 (A : Nat) (hA : A < 2 ^ 16) (i : Nat) (hi : ¬ i < 16) : A.testBit i = false :=
  Nat.testBit_lt_two_pow (Nat.lt_of_lt_of_le hA (Nat.pow_le_pow_right (by omega) (by omega)))
theorem n_less (A B : Nat) (hA : A < 2 ^ 16) (hB : B < 2 ^ 16) : (A ||| B) &&& (65535 - B) = A &&& (65535 - B) := by
  apply Nat.eq_of_testBit_eq
  intro i
  simp only [Nat.testBit_and, Nat.testBit_or, nb16 B hB]
  cases A.testBit i <;> cases B.testBit i <;> simp
theorem n_abs (A B : Nat) : A &&& (A ||| B) = A := by
  apply Nat.eq_of_testBit_eq
  intro i
  simp only [Nat.testBit_and, Nat.testBit_or]
  cases A.testBit i <;> cases B.testBit i <;> rfl
theorem n_dist (A B C : Nat) : (A ||| B) &&& C = (A &&& C) ||| (B &&& C) := by
  apply Nat.eq_of_testBit_eq
  intro i
  simp only [Nat.testBit_and, Nat.testBit_or]
  cases A.testBit i <;> cases B.testBit i <;> cases C.testBit i <;> rfl
theorem n_part (A B : Nat) (hA : A < 2 ^ 16) : (A &&& B) &&& (65535 - A) = 0 := by
  apply Nat.eq_of_testBit_eq
  intro i
  simp only [Nat.testBit_and, nb16 A hA, Nat.zero_testBit]
  cases A.testBit i <;> cases B.testBit i <;> simp
theorem n_xor (A B : Nat) (hA : A < 2 ^ 16) (hB : B < 2 ^ 16) : (A ||| B) &&& (65535 - (A &&& B)) = A ^^^ B := by
  have hC : A &&& B < 2 ^ 16 := Nat.and_lt_two_pow _ hB
  apply Nat.eq_of_testBit_eq
  intro i
  simp only [Nat.testBit_and, Nat.testBit_or, Nat.testBit_xor, nb16 _ hC]
  by_cases hi : i < 16
  · simp only [hi, decide_true, Bool.true_and]
    cases A.testBit i <;> cases B.testBit i <;> rfl
  · rw [hi16 A hA i hi, hi16 B hB i hi]; simp
theorem w_n {x : Int} (h : w16 x) : x.toNat < 2 ^ 16 := by have := h.1; have := h.2; omega
theorem f_less {a b : Int} (ha : w16 a) (hb : w16 b) : offN (orN a b) b = offN a b := by
  unfold offN orN; rw [Int.toNat_natCast, n_less _ _ (w_n ha) (w_n hb)]
theorem f_abs {a b : Int} (ha : w16 a) : andN a (orN a b) = a := by
  unfold andN orN; rw [Int.toNat_natCast, n_abs]; have := ha.1; omega
theorem f_dist (a b c : Int) : andN (orN a b) c = orN (andN a c) (andN b c) := by
  unfold andN orN; rw [Int.toNat_natCast, Int.toNat_natCast, Int.toNat_natCast, n_dist]
theorem f_self (a : Int) : xorN a a = 0 := by unfold xorN; rw [Nat.xor_self]; rfl
theorem f_part {a : Int} (b : Int) (ha : w16 a) : offN (offN a b) a = 0 := by
  unfold offN; rw [Int.toNat_natCast, n_part _ _ (w_n ha)]; rfl
theorem f_partA {a : Int} (b : Int) (ha : w16 a) : offN (andN a b) a = 0 := by
  unfold offN andN; rw [Int.toNat_natCast, n_part _ _ (w_n ha)]; rfl
theorem f_xor {a b : Int} (ha : w16 a) (hb : w16 b) : offN (orN a b) (andN a b) = xorN a b := by
  unfold offN orN andN xorN; rw [Int.toNat_natCast, Int.toNat_natCast, n_xor _ _ (w_n ha) (w_n hb)]
theorem number_whole (n : Int) (h : inW n = true) (w : World) : Calls Try.prog 18 #[.iface 42 (.int .i64 n)] w fun e w' => e = .returned (.tuple #[.int .i64 n, .bool true]) ∧ Bl w w' := by
  have HT := tell_whole n h
  have HN := num_any (tellP (.whole n))
  have e1 : tellP (.whole n) = ⟨1, 0, nilS, n⟩ := if_pos h
  rw [e1] at HN
  rw [show TV.num ⟨1, 0, nilS, n⟩ = true from rfl] at HN
  simp only [e1] at HT
  clear h e1
  unfold TV.val at HT HN
  simp only at HT HN
  have X := Box.new
  go_enter Try.func18, Try.ntmps18
  go_wp2_with fail
  refine (HT _).mono ?_
  rintro e w1 ⟨rfl, k1⟩
  have B := Box.new w1 1 0 nilS n
  go_wp2_with fail
  refine (HN _).mono ?_
  rintro e w2 ⟨rfl, k2⟩
  have B := B.on k2
  have b0 := B.c0
  have b1 := B.c1
  have b2 := B.c2
  have b3 := B.c3
  have KK := Lib.hid ((k1.alloc k1.size _).trans (k2.mono (by simp; have := k1.size; omega)))
  clear k1 k2 B X
  go_wp2_with fail
  go_ret2
  exact ⟨rfl, KK.out⟩
theorem number_none (w : World) : Calls Try.prog 18 #[.nilIface] w fun e w' => e = .returned (.tuple #[.int .i64 0, .bool false]) ∧ Bl w w' := by
  have HT := tell_none
  have HN := num_any (tellP .none)
  rw [show (tellP .none).num = false from rfl] at HN
  have e1 : tellP .none = ⟨0, 0, nilS, 0⟩ := rfl
  simp only [e1] at HT HN
  clear e1
  unfold TV.val at HT HN
  simp only at HT HN
  go_enter Try.func18, Try.ntmps18
  go_wp2_with fail
  refine (HT _).mono ?_
  rintro e w1 ⟨rfl, k1⟩
  have B := Box.new w1 0 0 nilS 0
  go_wp2_with fail
  refine (HN _).mono ?_
  rintro e w2 ⟨rfl, k2⟩
  have B := B.on k2
  have b0 := B.c0
  have b1 := B.c1
  have b2 := B.c2
  have b3 := B.c3
  have KK := Lib.hid ((k1.alloc k1.size _).trans (k2.mono (by simp; have := k1.size; omega)))
  clear k1 k2 B
  go_wp2_with fail
  go_ret2
  exact ⟨rfl, KK.out⟩
end Go.Proofs.Ytpnohljhpoildaa
