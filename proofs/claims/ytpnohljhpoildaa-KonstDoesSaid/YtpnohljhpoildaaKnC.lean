/- Package konst: which values have numbers; which operators there are; what is answered. -/
import Derived.Test.YtpnohljhpoildaaKnB
namespace Go.Proofs.Ytpnohljhpoildaa
open Go.RowKit
set_option maxHeartbeats 1000000
set_option maxRecDepth 100000
set_option linter.unusedVariables false
set_option linter.unusedSimpArgs false

theorem let_any (x : TV) (w : World) : Calls Try.prog 53 #[x.val] w fun e w' => e = .returned (.bool x.let) ∧ Bl w w' := by
  obtain ⟨s, t, x, n⟩ := x
  unfold TV.val
  cases h2 : (s == 2) <;> cases h5 : (s == 5) <;> cases h1 : ((x.size : Int) == 1)
  all_goals
    go_enter Try.func53, Try.ntmps53
    go_wp2
    go_ret
    refine ⟨by simp [TV.let, h2, h5, h1], ?_⟩
    repeat (first | exact Below.refl _ _ | assumption | refine Below.alloc ?_ (by simp <;> omega) _ | refine Below.setCell ?_ (by simp <;> omega) _)
theorem num_any (x : TV) (w : World) : Calls Try.prog 34 #[x.val] w fun e w' => e = .returned (.bool x.num) ∧ Bl w w' := by
  have HL := let_any x
  obtain ⟨l, hl⟩ : ∃ l, x.let = l := ⟨_, rfl⟩
  rw [hl] at HL
  have HL2 := Lib.hid hl
  clear hl
  obtain ⟨s, t, x, n⟩ := x
  unfold TV.val at *
  cases h1 : (s == 1) <;> cases h3 : (s == 3) <;> cases h6 : (s == 6)
  all_goals
    go_enter Try.func34, Try.ntmps34
    go_wp2_with fail
    try
      refine (HL _).mono ?_
      rintro e w2 ⟨rfl, hb⟩
      go_wp2_with fail
    go_ret
    refine ⟨by simp [TV.num, HL2.out, h1, h3, h6], ?_⟩
    first
      | (refine Bl.on ?_ hb
         repeat (first | exact Below.refl _ _ | assumption | refine Below.alloc ?_ (by simp <;> omega) _ | refine Below.setCell ?_ (by simp <;> omega) _))
      | (repeat (first | exact Below.refl _ _ | assumption | refine Below.alloc ?_ (by simp <;> omega) _ | refine Below.setCell ?_ (by simp <;> omega) _))
theorem both_any (x y : TV) (k : Int) (w : World) : Calls Try.prog 42 #[x.val, y.val, .int .i64 k] w fun e w' => e = .returned (.bool (bothP x y k)) ∧ Bl w w' := by
  obtain ⟨s, t, x, n⟩ := x
  obtain ⟨s2, t2, x2, n2⟩ := y
  unfold TV.val
  cases h1 : (s == k) <;> cases h2 : (s2 == k)
  all_goals
    go_enter Try.func42, Try.ntmps42
    go_wp2
    go_ret
    refine ⟨by simp [bothP, h1, h2], ?_⟩
    repeat (first | exact Below.refl _ _ | assumption | refine Below.alloc ?_ (by simp <;> omega) _ | refine Below.setCell ?_ (by simp <;> omega) _)
theorem truth_any (b : Bool) (w : World) : Calls Try.prog 52 #[.bool b] w fun e w' => e = .returned (.tuple #[(tru b).1.val, .int .i64 (tru b).2]) ∧ w' = w := by
  go_enter Try.func52, Try.ntmps52
  go_wp2
  go_ret2
  exact ⟨rfl, rfl⟩
theorem fit_any (n : Int) (w : World) : Calls Try.prog 61 #[.int .i64 n] w fun e w' => e = .returned (.tuple #[(fitP n).1.val, .int .i64 (fitP n).2]) ∧ w' = w := by
  have HW := within_any n
  cases h : inW n
  all_goals
    rw [h] at HW
    have H := Lib.hid h
    clear h
    go_enter Try.func61, Try.ntmps61
    go_wp2_with fail
    refine (HW _).mono ?_
    rintro e w2 ⟨rfl, rfl⟩
    go_wp2_with fail
    go_ret2
  · exact ⟨by rw [show fitP n = (.none, 101) from if_neg (by rw [H.out]; simp)]; rfl, rfl⟩
  · exact ⟨by rw [show fitP n = (.whole n, 0) from if_pos H.out]; rfl, rfl⟩
theorem oper_0 (w : World) : Calls Try.prog 21 #[.string ⟨#[43]⟩] w fun e w' => e = .returned (.bool true) ∧ w' = w := by
  go_enter Try.func21, Try.ntmps21
  go_wp2
  go_ret
  exact ⟨rfl, rfl⟩
theorem oper_1 (w : World) : Calls Try.prog 21 #[.string ⟨#[45]⟩] w fun e w' => e = .returned (.bool true) ∧ w' = w := by
  go_enter Try.func21, Try.ntmps21
  go_wp2
  go_ret
  exact ⟨rfl, rfl⟩
theorem oper_2 (w : World) : Calls Try.prog 21 #[.string ⟨#[42]⟩] w fun e w' => e = .returned (.bool true) ∧ w' = w := by
  go_enter Try.func21, Try.ntmps21
  go_wp2
  go_ret
  exact ⟨rfl, rfl⟩
theorem oper_3 (w : World) : Calls Try.prog 21 #[.string ⟨#[47]⟩] w fun e w' => e = .returned (.bool true) ∧ w' = w := by
  go_enter Try.func21, Try.ntmps21
  go_wp2
  go_ret
  exact ⟨rfl, rfl⟩
theorem oper_4 (w : World) : Calls Try.prog 21 #[.string ⟨#[68, 73, 86]⟩] w fun e w' => e = .returned (.bool true) ∧ w' = w := by
  go_enter Try.func21, Try.ntmps21
  go_wp2
  go_ret
  exact ⟨rfl, rfl⟩
theorem oper_5 (w : World) : Calls Try.prog 21 #[.string ⟨#[77, 79, 68]⟩] w fun e w' => e = .returned (.bool true) ∧ w' = w := by
  go_enter Try.func21, Try.ntmps21
  go_wp2
  go_ret
  exact ⟨rfl, rfl⟩
theorem oper_6 (w : World) : Calls Try.prog 21 #[.string ⟨#[65, 78, 68]⟩] w fun e w' => e = .returned (.bool true) ∧ w' = w := by
  go_enter Try.func21, Try.ntmps21
  go_wp2
  go_ret
  exact ⟨rfl, rfl⟩
theorem oper_7 (w : World) : Calls Try.prog 21 #[.string ⟨#[79, 82]⟩] w fun e w' => e = .returned (.bool true) ∧ w' = w := by
  go_enter Try.func21, Try.ntmps21
  go_wp2
  go_ret
  exact ⟨rfl, rfl⟩
theorem oper_8 (w : World) : Calls Try.prog 21 #[.string ⟨#[61]⟩] w fun e w' => e = .returned (.bool true) ∧ w' = w := by
  go_enter Try.func21, Try.ntmps21
  go_wp2
  go_ret
  exact ⟨rfl, rfl⟩
theorem oper_9 (w : World) : Calls Try.prog 21 #[.string ⟨#[35]⟩] w fun e w' => e = .returned (.bool true) ∧ w' = w := by
  go_enter Try.func21, Try.ntmps21
  go_wp2
  go_ret
  exact ⟨rfl, rfl⟩
theorem oper_10 (w : World) : Calls Try.prog 21 #[.string ⟨#[60]⟩] w fun e w' => e = .returned (.bool true) ∧ w' = w := by
  go_enter Try.func21, Try.ntmps21
  go_wp2
  go_ret
  exact ⟨rfl, rfl⟩
theorem oper_11 (w : World) : Calls Try.prog 21 #[.string ⟨#[60, 61]⟩] w fun e w' => e = .returned (.bool true) ∧ w' = w := by
  go_enter Try.func21, Try.ntmps21
  go_wp2
  go_ret
  exact ⟨rfl, rfl⟩
theorem oper_12 (w : World) : Calls Try.prog 21 #[.string ⟨#[62]⟩] w fun e w' => e = .returned (.bool true) ∧ w' = w := by
  go_enter Try.func21, Try.ntmps21
  go_wp2
  go_ret
  exact ⟨rfl, rfl⟩
theorem oper_13 (w : World) : Calls Try.prog 21 #[.string ⟨#[62, 61]⟩] w fun e w' => e = .returned (.bool true) ∧ w' = w := by
  go_enter Try.func21, Try.ntmps21
  go_wp2
  go_ret
  exact ⟨rfl, rfl⟩
theorem oper_14 (w : World) : Calls Try.prog 21 #[.string ⟨#[73, 78]⟩] w fun e w' => e = .returned (.bool true) ∧ w' = w := by
  go_enter Try.func21, Try.ntmps21
  go_wp2
  go_ret
  exact ⟨rfl, rfl⟩
theorem oper_no (o : List UInt8) (h : opsL.contains o = false) (w : World) : Calls Try.prog 21 #[.string ⟨o.toArray⟩] w fun e w' => e = .returned (.bool false) ∧ w' = w := by
  have hb : ∀ l ∈ opsL, o ≠ l := fun l hl he => by
    subst he
    have : opsL.contains o = true := List.contains_iff_mem.2 hl
    rw [h] at this; cases this
  have h0 : (o == ([43] : List UInt8)) = false := beq_eq_false_iff_ne.2 (hb _ (by decide))
  have h1 : (o == ([45] : List UInt8)) = false := beq_eq_false_iff_ne.2 (hb _ (by decide))
  have h2 : (o == ([42] : List UInt8)) = false := beq_eq_false_iff_ne.2 (hb _ (by decide))
  have h3 : (o == ([47] : List UInt8)) = false := beq_eq_false_iff_ne.2 (hb _ (by decide))
  have h4 : (o == ([68, 73, 86] : List UInt8)) = false := beq_eq_false_iff_ne.2 (hb _ (by decide))
  have h5 : (o == ([77, 79, 68] : List UInt8)) = false := beq_eq_false_iff_ne.2 (hb _ (by decide))
  have h6 : (o == ([65, 78, 68] : List UInt8)) = false := beq_eq_false_iff_ne.2 (hb _ (by decide))
  have h7 : (o == ([79, 82] : List UInt8)) = false := beq_eq_false_iff_ne.2 (hb _ (by decide))
  have h8 : (o == ([61] : List UInt8)) = false := beq_eq_false_iff_ne.2 (hb _ (by decide))
  have h9 : (o == ([35] : List UInt8)) = false := beq_eq_false_iff_ne.2 (hb _ (by decide))
  have h10 : (o == ([60] : List UInt8)) = false := beq_eq_false_iff_ne.2 (hb _ (by decide))
  have h11 : (o == ([60, 61] : List UInt8)) = false := beq_eq_false_iff_ne.2 (hb _ (by decide))
  have h12 : (o == ([62] : List UInt8)) = false := beq_eq_false_iff_ne.2 (hb _ (by decide))
  have h13 : (o == ([62, 61] : List UInt8)) = false := beq_eq_false_iff_ne.2 (hb _ (by decide))
  have h14 : (o == ([73, 78] : List UInt8)) = false := beq_eq_false_iff_ne.2 (hb _ (by decide))
  clear hb h
  go_enter Try.func21, Try.ntmps21
  go_wp2
  go_ret
  exact ⟨rfl, rfl⟩
end Go.Proofs.Ytpnohljhpoildaa
