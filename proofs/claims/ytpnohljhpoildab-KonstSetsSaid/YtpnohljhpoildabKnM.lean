/- KonstSets. -/
import Derived.Test.YtpnohljhpoildabKnL
namespace Go.Proofs.Ytpnohljhpoildab
open Go.RowKit
set_option maxHeartbeats 1000000
set_option maxRecDepth 100000
set_option linter.unusedVariables false
set_option linter.unusedSimpArgs false

theorem nb16 (B : Nat) (hB : B < 2 ^ 16) (i : Nat) : (65535 - B).testBit i = (decide (i < 16) && !B.testBit i) := not_bit 16 B hB i
theorem hi16 (A : Nat) (hA : A < 2 ^ 16) (i : Nat) (hi : ¬ i < 16) : A.testBit i = false :=
  Nat.testBit_lt_two_pow (Nat.lt_of_lt_of_le hA (Nat.pow_le_pow_right (by omega) (by omega)))
theorem n_less (A B : Nat) (hA : A < 2 ^ 16) (hB : B < 2 ^ 16) : (A ||| B) &&& (65535 - B) = A &&& (65535 - B) := by
  apply Nat.eq_of_testBit_eq
  intro i
  simp only [Nat.testBit_and, Nat.testBit_or, nb16 B hB]
  cases A.testBit i <;> cases B.testBit i <;> simp
theorem n_abs (A B : Nat) : A &&& (A ||| B) = A := by
  apply Nat.eq_of_testBit_eq
  intro i
  simp only [Nat.testBit_and, Nat.testBit_or]
  cases A.testBit i <;> cases B.testBit i <;> rfl
theorem n_dist (A B C : Nat) : (A ||| B) &&& C = (A &&& C) ||| (B &&& C) := by
  apply Nat.eq_of_testBit_eq
  intro i
  simp only [Nat.testBit_and, Nat.testBit_or]
  cases A.testBit i <;> cases B.testBit i <;> cases C.testBit i <;> rfl
theorem n_part (A B : Nat) (hA : A < 2 ^ 16) : (A &&& B) &&& (65535 - A) = 0 := by
  apply Nat.eq_of_testBit_eq
  intro i
  simp only [Nat.testBit_and, nb16 A hA, Nat.zero_testBit]
  cases A.testBit i <;> cases B.testBit i <;> simp
theorem n_xor (A B : Nat) (hA : A < 2 ^ 16) (hB : B < 2 ^ 16) : (A ||| B) &&& (65535 - (A &&& B)) = A ^^^ B := by
  have hC : A &&& B < 2 ^ 16 := Nat.and_lt_two_pow _ hB
  apply Nat.eq_of_testBit_eq
  intro i
  simp only [Nat.testBit_and, Nat.testBit_or, Nat.testBit_xor, nb16 _ hC]
  by_cases hi : i < 16
  · simp only [hi, decide_true, Bool.true_and]
    cases A.testBit i <;> cases B.testBit i <;> rfl
  · rw [hi16 A hA i hi, hi16 B hB i hi]; simp
theorem w_n {x : Int} (h : w16 x) : x.toNat < 2 ^ 16 := by have := h.1; have := h.2; omega
theorem f_less {a b : Int} (ha : w16 a) (hb : w16 b) : offN (orN a b) b = offN a b := by
  unfold offN orN; rw [Int.toNat_natCast, n_less _ _ (w_n ha) (w_n hb)]
theorem f_abs {a b : Int} (ha : w16 a) : andN a (orN a b) = a := by
  unfold andN orN; rw [Int.toNat_natCast, n_abs]; have := ha.1; omega
theorem f_dist (a b c : Int) : andN (orN a b) c = orN (andN a c) (andN b c) := by
  unfold andN orN; rw [Int.toNat_natCast, Int.toNat_natCast, Int.toNat_natCast, n_dist]
theorem f_self (a : Int) : xorN a a = 0 := by unfold xorN; rw [Nat.xor_self]; rfl
theorem f_part {a : Int} (b : Int) (ha : w16 a) : offN (offN a b) a = 0 := by
  unfold offN; rw [Int.toNat_natCast, n_part _ _ (w_n ha)]; rfl
theorem f_partA {a : Int} (b : Int) (ha : w16 a) : offN (andN a b) a = 0 := by
  unfold offN andN; rw [Int.toNat_natCast, n_part _ _ (w_n ha)]; rfl
theorem f_xor {a b : Int} (ha : w16 a) (hb : w16 b) : offN (orN a b) (andN a b) = xorN a b := by
  unfold offN orN andN xorN; rw [Int.toNat_natCast, Int.toNat_natCast, n_xor _ _ (w_n ha) (w_n hb)]
theorem sets_end (a b c : Int) (a0 : 0 ≤ a) (a1 : a ≤ 65535) (b0 : 0 ≤ b) (b1 : b ≤ 65535) (c0 : 0 ≤ c) (c1 : c ≤ 65535) (W : World) : Calls Try.prog 4 #[.int .u16 a, .int .u16 b, .int .u16 c] W fun e w' => e = .returned (.bool true) ∧ Below W.heap.size W w' := by
  have ha : w16 a := ⟨a0, a1⟩
  have hb : w16 b := ⟨b0, b1⟩
  have hc : w16 c := ⟨c0, c1⟩
  clear a0 a1 b0 b1 c0 c1
  obtain ⟨o, ho⟩ : ∃ z, orN a b = z := ⟨_, rfl⟩
  have wo : w16 o := by rw [← ho]; exact or_w ha hb
  obtain ⟨l, hl⟩ : ∃ z, offN a b = z := ⟨_, rfl⟩
  have wl : w16 l := by rw [← hl]; exact off_w ha hb
  obtain ⟨p, hp⟩ : ∃ z, andN a c = z := ⟨_, rfl⟩
  have wp : w16 p := by rw [← hp]; exact and_w ha hc
  obtain ⟨q, hq⟩ : ∃ z, andN b c = z := ⟨_, rfl⟩
  have wq : w16 q := by rw [← hq]; exact and_w hb hc
  obtain ⟨t, ht⟩ : ∃ z, orN p q = z := ⟨_, rfl⟩
  have wt : w16 t := by rw [← ht]; exact or_w wp wq
  have C0 : ∀ w, Calls Try.prog 6 #[.string ⟨#[43]⟩, .iface 26 (.int .u16 a), .iface 26 (.int .u16 b)] w fun e w' => e = .returned (.tuple #[.iface 26 (.int .u16 o), .int .i64 0]) ∧ Bl w w' := fun w => by
    refine (Does_any [43] (by decide) (.bits a) (.bits b) ha hb w).mono ?_
    rintro e w' ⟨rfl, k⟩
    exact ⟨by rw [show doesP [43] (.bits a) (.bits b) = ((.bits o), 0) from by rw [← ho]; rfl]; rfl, k⟩
  have C1 : ∀ w, Calls Try.prog 6 #[.string ⟨#[45]⟩, .iface 26 (.int .u16 o), .iface 26 (.int .u16 b)] w fun e w' => e = .returned (.tuple #[.iface 26 (.int .u16 l), .int .i64 0]) ∧ Bl w w' := fun w => by
    refine (Does_any [45] (by decide) (.bits o) (.bits b) wo hb w).mono ?_
    rintro e w' ⟨rfl, k⟩
    exact ⟨by rw [show doesP [45] (.bits o) (.bits b) = ((.bits l), 0) from by rw [← hl, ← f_less ha hb, ho]; rfl]; rfl, k⟩
  have C2 : ∀ w, Calls Try.prog 6 #[.string ⟨#[45]⟩, .iface 26 (.int .u16 a), .iface 26 (.int .u16 b)] w fun e w' => e = .returned (.tuple #[.iface 26 (.int .u16 l), .int .i64 0]) ∧ Bl w w' := fun w => by
    refine (Does_any [45] (by decide) (.bits a) (.bits b) ha hb w).mono ?_
    rintro e w' ⟨rfl, k⟩
    exact ⟨by rw [show doesP [45] (.bits a) (.bits b) = ((.bits l), 0) from by rw [← hl]; rfl]; rfl, k⟩
  have C3 : ∀ w, Calls Try.prog 6 #[.string ⟨#[42]⟩, .iface 26 (.int .u16 a), .iface 26 (.int .u16 o)] w fun e w' => e = .returned (.tuple #[.iface 26 (.int .u16 a), .int .i64 0]) ∧ Bl w w' := fun w => by
    refine (Does_any [42] (by decide) (.bits a) (.bits o) ha wo w).mono ?_
    rintro e w' ⟨rfl, k⟩
    exact ⟨by rw [show doesP [42] (.bits a) (.bits o) = ((.bits a), 0) from by rw [show doesP [42] (.bits a) (.bits o) = (.bits (andN a o), 0) from rfl, ← ho, f_abs ha]]; rfl, k⟩
  have C4 : ∀ w, Calls Try.prog 6 #[.string ⟨#[42]⟩, .iface 26 (.int .u16 o), .iface 26 (.int .u16 c)] w fun e w' => e = .returned (.tuple #[.iface 26 (.int .u16 t), .int .i64 0]) ∧ Bl w w' := fun w => by
    refine (Does_any [42] (by decide) (.bits o) (.bits c) wo hc w).mono ?_
    rintro e w' ⟨rfl, k⟩
    exact ⟨by rw [show doesP [42] (.bits o) (.bits c) = ((.bits t), 0) from by rw [← ht, ← hp, ← hq, ← f_dist, ho]; rfl]; rfl, k⟩
  have C5 : ∀ w, Calls Try.prog 6 #[.string ⟨#[42]⟩, .iface 26 (.int .u16 a), .iface 26 (.int .u16 c)] w fun e w' => e = .returned (.tuple #[.iface 26 (.int .u16 p), .int .i64 0]) ∧ Bl w w' := fun w => by
    refine (Does_any [42] (by decide) (.bits a) (.bits c) ha hc w).mono ?_
    rintro e w' ⟨rfl, k⟩
    exact ⟨by rw [show doesP [42] (.bits a) (.bits c) = ((.bits p), 0) from by rw [← hp]; rfl]; rfl, k⟩
  have C6 : ∀ w, Calls Try.prog 6 #[.string ⟨#[42]⟩, .iface 26 (.int .u16 b), .iface 26 (.int .u16 c)] w fun e w' => e = .returned (.tuple #[.iface 26 (.int .u16 q), .int .i64 0]) ∧ Bl w w' := fun w => by
    refine (Does_any [42] (by decide) (.bits b) (.bits c) hb hc w).mono ?_
    rintro e w' ⟨rfl, k⟩
    exact ⟨by rw [show doesP [42] (.bits b) (.bits c) = ((.bits q), 0) from by rw [← hq]; rfl]; rfl, k⟩
  have C7 : ∀ w, Calls Try.prog 6 #[.string ⟨#[43]⟩, .iface 26 (.int .u16 p), .iface 26 (.int .u16 q)] w fun e w' => e = .returned (.tuple #[.iface 26 (.int .u16 t), .int .i64 0]) ∧ Bl w w' := fun w => by
    refine (Does_any [43] (by decide) (.bits p) (.bits q) wp wq w).mono ?_
    rintro e w' ⟨rfl, k⟩
    exact ⟨by rw [show doesP [43] (.bits p) (.bits q) = ((.bits t), 0) from by rw [← ht]; rfl]; rfl, k⟩
  have C8 : ∀ w, Calls Try.prog 6 #[.string ⟨#[47]⟩, .iface 26 (.int .u16 a), .iface 26 (.int .u16 a)] w fun e w' => e = .returned (.tuple #[.iface 26 (.int .u16 0), .int .i64 0]) ∧ Bl w w' := fun w => by
    refine (Does_any [47] (by decide) (.bits a) (.bits a) ha ha w).mono ?_
    rintro e w' ⟨rfl, k⟩
    exact ⟨by rw [show doesP [47] (.bits a) (.bits a) = ((.bits 0), 0) from by rw [show doesP [47] (.bits a) (.bits a) = (.bits (xorN a a), 0) from rfl, f_self]]; rfl, k⟩
  have C9 : ∀ w, Calls Try.prog 6 #[.string ⟨#[60, 61]⟩, .iface 26 (.int .u16 l), .iface 26 (.int .u16 a)] w fun e w' => e = .returned (.tuple #[.iface 33 (.bool true), .int .i64 0]) ∧ Bl w w' := fun w => by
    refine (Does_any [60, 61] (by decide) (.bits l) (.bits a) wl ha w).mono ?_
    rintro e w' ⟨rfl, k⟩
    exact ⟨by rw [show doesP [60, 61] (.bits l) (.bits a) = ((.truth true), 0) from by rw [show doesP [60, 61] (.bits l) (.bits a) = tru (offN l a == 0) from rfl, ← hl, f_part b ha]; rfl]; rfl, k⟩
  have C10 : ∀ w, Calls Try.prog 6 #[.string ⟨#[62, 61]⟩, .iface 26 (.int .u16 a), .iface 26 (.int .u16 l)] w fun e w' => e = .returned (.tuple #[.iface 33 (.bool true), .int .i64 0]) ∧ Bl w w' := fun w => by
    refine (Does_any [62, 61] (by decide) (.bits a) (.bits l) ha wl w).mono ?_
    rintro e w' ⟨rfl, k⟩
    exact ⟨by rw [show doesP [62, 61] (.bits a) (.bits l) = ((.truth true), 0) from by rw [show doesP [62, 61] (.bits a) (.bits l) = tru (offN l a == 0) from rfl, ← hl, f_part b ha]; rfl]; rfl, k⟩
  have S0 : ∀ w, Calls Try.prog 7 #[.iface 26 (.int .u16 l), .iface 26 (.int .u16 l)] w fun e w' => e = .returned (.bool true) ∧ Bl w w' := fun w => by
    refine (same2_any (.bits l) (.bits l) wl wl w).mono ?_
    rintro e w' ⟨rfl, k⟩
    exact ⟨by rw [show (tellP (.bits l)).eq (tellP (.bits l)) = true from TV.eq_self _], k⟩
  have S1 : ∀ w, Calls Try.prog 7 #[.iface 26 (.int .u16 a), .iface 26 (.int .u16 a)] w fun e w' => e = .returned (.bool true) ∧ Bl w w' := fun w => by
    refine (same2_any (.bits a) (.bits a) ha ha w).mono ?_
    rintro e w' ⟨rfl, k⟩
    exact ⟨by rw [show (tellP (.bits a)).eq (tellP (.bits a)) = true from TV.eq_self _], k⟩
  have S2 : ∀ w, Calls Try.prog 7 #[.iface 26 (.int .u16 t), .iface 26 (.int .u16 t)] w fun e w' => e = .returned (.bool true) ∧ Bl w w' := fun w => by
    refine (same2_any (.bits t) (.bits t) wt wt w).mono ?_
    rintro e w' ⟨rfl, k⟩
    exact ⟨by rw [show (tellP (.bits t)).eq (tellP (.bits t)) = true from TV.eq_self _], k⟩
  have S3 : ∀ w, Calls Try.prog 7 #[.iface 26 (.int .u16 0), .iface 26 (.int .u16 0)] w fun e w' => e = .returned (.bool true) ∧ Bl w w' := fun w => by
    refine (same2_any (.bits 0) (.bits 0) (show PV.wf (.bits 0) from ⟨by omega, by omega⟩) (show PV.wf (.bits 0) from ⟨by omega, by omega⟩) w).mono ?_
    rintro e w' ⟨rfl, k⟩
    exact ⟨by rw [show (tellP (.bits 0)).eq (tellP (.bits 0)) = true from TV.eq_self _], k⟩
  have S4 : ∀ w, Calls Try.prog 7 #[.iface 33 (.bool true), .iface 33 (.bool true)] w fun e w' => e = .returned (.bool true) ∧ Bl w w' := fun w => by
    refine (same2_any (.truth true) (.truth true) trivial trivial w).mono ?_
    rintro e w' ⟨rfl, k⟩
    exact ⟨by rw [show (tellP (.truth true)).eq (tellP (.truth true)) = true from TV.eq_self _], k⟩
  clear ho hl hp hq ht wo wl wp wq wt ha hb hc
  go_enter Try.func4, Try.ntmps4
  go_wp2_with fail
  refine (C0 _).mono ?_
  rintro e w0 ⟨rfl, k0⟩
  go_wp2_with fail
  refine (C1 _).mono ?_
  rintro e w1 ⟨rfl, k1⟩
  have k1 := Bl.on k0 k1
  clear k0
  go_wp2_with fail
  refine (C2 _).mono ?_
  rintro e w2 ⟨rfl, k2⟩
  have k2 := Bl.on k1 k2
  clear k1
  go_wp2_with fail
  refine (C3 _).mono ?_
  rintro e w3 ⟨rfl, k3⟩
  have k3 := Bl.on k2 k3
  clear k2
  go_wp2_with fail
  refine (C4 _).mono ?_
  rintro e w4 ⟨rfl, k4⟩
  have k4 := Bl.on k3 k4
  clear k3
  go_wp2_with fail
  refine (C5 _).mono ?_
  rintro e w5 ⟨rfl, k5⟩
  have k5 := Bl.on k4 k5
  clear k4
  go_wp2_with fail
  refine (C6 _).mono ?_
  rintro e w6 ⟨rfl, k6⟩
  have k6 := Bl.on k5 k6
  clear k5
  go_wp2_with fail
  refine (C7 _).mono ?_
  rintro e w7 ⟨rfl, k7⟩
  have k7 := Bl.on k6 k7
  clear k6
  go_wp2_with fail
  refine (C8 _).mono ?_
  rintro e w8 ⟨rfl, k8⟩
  have k8 := Bl.on k7 k8
  clear k7
  go_wp2_with fail
  refine (C9 _).mono ?_
  rintro e w9 ⟨rfl, k9⟩
  have k9 := Bl.on k8 k9
  clear k8
  go_wp2_with fail
  refine (C10 _).mono ?_
  rintro e w10 ⟨rfl, k10⟩
  have k10 := Bl.on k9 k10
  clear k9
  go_wp2_with fail
  refine (S0 _).mono ?_
  rintro e w11 ⟨rfl, k11⟩
  have k11 := Bl.on k10 k11
  clear k10
  go_wp2_with fail
  refine (S1 _).mono ?_
  rintro e w12 ⟨rfl, k12⟩
  have k12 := Bl.on k11 k12
  clear k11
  go_wp2_with fail
  refine (S2 _).mono ?_
  rintro e w13 ⟨rfl, k13⟩
  have k13 := Bl.on k12 k13
  clear k12
  go_wp2_with fail
  refine (S3 _).mono ?_
  rintro e w14 ⟨rfl, k14⟩
  have k14 := Bl.on k13 k14
  clear k13
  go_wp2_with fail
  refine (S4 _).mono ?_
  rintro e w15 ⟨rfl, k15⟩
  have k15 := Bl.on k14 k15
  clear k14
  go_wp2_with fail
  refine (S4 _).mono ?_
  rintro e w16 ⟨rfl, k16⟩
  have k16 := Bl.on k15 k16
  clear k15
  go_wp2_with fail
  refine (works_any _).mono ?_
  rintro e w17 ⟨rfl, k17⟩
  have k17 := Bl.on k16 k17
  clear k16
  have KK := Lib.hid k17
  clear k17
  go_wp2_with fail
  go_ret
  exact ⟨rfl, KK.out⟩
end Go.Proofs.Ytpnohljhpoildab
