/- The document's own sets, walked. -/
import Derived.Test.YtgghdllbegkioaaDoorWdS
import Derived.Test.YtgghdllbegkioaaDoorWdK
import Derived.LoopTactic
namespace Go.Proofs.YtgghdllbegkioaaDoor
open Go.RowKit
set_option maxHeartbeats 4000000
set_option maxRecDepth 100000
set_option linter.unusedVariables false

/-- Whether each of the first k elements of A is one of B. -/
def subB (A B : Nat) : Nat → Bool
  | 0 => true
  | k + 1 => subB A B k && (!A.testBit k || B.testBit k)
theorem subB_iff (A B k : Nat) : subB A B k = true ↔ ∀ j, j < k → A.testBit j = true → B.testBit j = true := by
  induction k with
  | zero => simp [subB]
  | succ k ih =>
    unfold subB
    rw [Bool.and_eq_true, ih]
    constructor
    · rintro ⟨h1, h2⟩ j hj ha
      rcases Nat.lt_succ_iff_lt_or_eq.1 hj with h | rfl
      · exact h1 j h ha
      · rw [ha] at h2; simpa using h2
    · intro h
      refine ⟨fun j hj => h j (by omega), ?_⟩
      cases ha : A.testBit k
      · rfl
      · rw [h k (by omega) ha]; rfl
theorem subB_16 (A B : Nat) (hA : A ≤ 65535) (hB : B ≤ 65535) : subB A B 16 = decide (A &&& (65535 - B) = 0) := by
  by_cases h : A &&& (65535 - B) = 0
  · rw [decide_eq_true h, subB_iff]
    intro j hj ha
    have h2 := congrArg (fun n => n.testBit j) h
    simp only [Nat.testBit_and, not16 B hB, Nat.zero_testBit, ha, hj, decide_true, Bool.true_and] at h2
    simpa using h2
  · rw [decide_eq_false h]
    cases hs : subB A B 16
    · rfl
    · exfalso
      apply h
      rw [subB_iff] at hs
      apply Nat.eq_of_testBit_eq
      intro i
      simp only [Nat.testBit_and, not16 B hB, Nat.zero_testBit]
      by_cases hi : i < 16
      · cases ha : A.testBit i
        · rfl
        · rw [hs i hi ha]; simp
      · rw [hi16 A hA i (by omega)]; rfl
theorem mod_step (N k : Nat) (b : Bool) (h : N.testBit k = b) : N % 2 ^ (k + 1) = N % 2 ^ k + (if b then 2 ^ k else 0) := by
  rw [Nat.mod_pow_succ]
  rw [Nat.testBit_eq_decide_div_mod_eq] at h
  cases b
  · rw [decide_eq_false_iff_not] at h
    rw [show N / 2 ^ k % 2 = 0 by omega]; simp
  · rw [decide_eq_true_iff] at h
    rw [h]; simp
theorem add_step (N k v : Nat) (hk : k ≤ 15) (hv : v = N % 2 ^ k) (h : N.testBit k = true) : IntKind.u16.wrap ((v : Int) + IntKind.u16.wrap (2 ^ k)) = ((N % 2 ^ (k + 1) : Nat) : Int) := by
  rw [hv, shl_one k hk, mod_step N k true h, if_pos rfl, IntKind.wrap_u16]
  have h1 : N % 2 ^ k < 2 ^ k := Nat.mod_lt _ (Nat.pow_pos (by omega))
  have h2 : 2 ^ k ≤ 32768 := by
    have : 2 ^ k ≤ 2 ^ 15 := Nat.pow_le_pow_right (by omega) hk
    omega
  generalize 2 ^ k = m at *
  omega
theorem keep_step (N k v : Nat) (hv : v = N % 2 ^ k) (h : N.testBit k = false) : v = N % 2 ^ (k + 1) := by
  rw [hv, mod_step N k false h]; simp
theorem divI (A k : Nat) : 0 ≤ (A : Int) / 2 ^ k := Int.ediv_nonneg (by omega) (Int.pow_nonneg (by omega))
theorem bitI (A k : Nat) : ((A : Int) / 2 ^ k % 2 == 1) = A.testBit k := by
  have h := bit_mod (A : Int) (k : Int) (by omega) (by omega)
  simpa using h

theorem sets_24 (A B : Nat) (hA : A ≤ 65535) (hB : B ≤ 65535) (w : World) :
    Calls Tryd.prog 28 #[.int .u8 24, .int .u16 A, .int .u16 B] w (Ret (((A ||| B : Nat) : Int), 0) w) := by
  have hN : A ||| B < 65536 := by have := or_le16 A B hA hB; omega
  have HN := Lib.hid hN
  clear hN
  go_enter Tryd.func28, Tryd.ntmps28
  go_wp2_with fail
  go_loop [8, 9, 10] (fun s p i => ∃ k v : Nat, k ≤ 16 ∧ v = (A ||| B) % 2 ^ k ∧ i = .int .u16 k ∧ s = .int .u16 v ∧ p = .bool (subB A B k)) (fun _ _ i => (16 - intOf i).toNat)
  case atStart => exact ⟨0, 0, by omega, by rw [Nat.pow_zero, Nat.mod_one], rfl, rfl, rfl⟩
  case round =>
    obtain ⟨k, v, hk, hv, rfl, rfl, rfl⟩ := hrel
    have HV := Lib.hid hv
    clear hv
    have d1 := divI A k
    have d2 := divI B k
    by_cases hk2 : k < 16
    · have hx := bitI A k
      have hy := bitI B k
      cases ha : A.testBit k <;> cases hb2 : B.testBit k <;> cases hq : subB A B k
      · have hb : (A ||| B).testBit k = false := by rw [Nat.testBit_or, ha, hb2]; rfl
        have HS := Lib.hid (keep_step (A ||| B) k v HV.out hb)
        have HQ : Hid (subB A B (k + 1) = false) := Lib.hid (by unfold subB; rw [ha, hb2, hq]; rfl)
        rw [ha] at hx
        rw [hb2] at hy
        clear hb ha hb2 hq
        go_wp2_with fail
        go_round
        case rel => exact ⟨k + 1, v, by omega, HS.out, by go_num, by rfl, by rw [HQ.out]⟩
        case measure => simp [intOf]; omega
      · have hb : (A ||| B).testBit k = false := by rw [Nat.testBit_or, ha, hb2]; rfl
        have HS := Lib.hid (keep_step (A ||| B) k v HV.out hb)
        have HQ : Hid (subB A B (k + 1) = true) := Lib.hid (by unfold subB; rw [ha, hb2, hq]; rfl)
        rw [ha] at hx
        rw [hb2] at hy
        clear hb ha hb2 hq
        go_wp2_with fail
        go_round
        case rel => exact ⟨k + 1, v, by omega, HS.out, by go_num, by rfl, by rw [HQ.out]⟩
        case measure => simp [intOf]; omega
      · have hb : (A ||| B).testBit k = true := by rw [Nat.testBit_or, ha, hb2]; rfl
        have HS := Lib.hid (add_step (A ||| B) k v (by omega) HV.out hb)
        have HQ : Hid (subB A B (k + 1) = false) := Lib.hid (by unfold subB; rw [ha, hb2, hq]; rfl)
        rw [ha] at hx
        rw [hb2] at hy
        clear hb ha hb2 hq
        go_wp2_with fail
        go_round
        case rel => exact ⟨k + 1, _, by omega, rfl, by go_num, by rw [HS.out], by rw [HQ.out]⟩
        case measure => simp [intOf]; omega
      · have hb : (A ||| B).testBit k = true := by rw [Nat.testBit_or, ha, hb2]; rfl
        have HS := Lib.hid (add_step (A ||| B) k v (by omega) HV.out hb)
        have HQ : Hid (subB A B (k + 1) = true) := Lib.hid (by unfold subB; rw [ha, hb2, hq]; rfl)
        rw [ha] at hx
        rw [hb2] at hy
        clear hb ha hb2 hq
        go_wp2_with fail
        go_round
        case rel => exact ⟨k + 1, _, by omega, rfl, by go_num, by rw [HS.out], by rw [HQ.out]⟩
        case measure => simp [intOf]; omega
      · have hb : (A ||| B).testBit k = true := by rw [Nat.testBit_or, ha, hb2]; rfl
        have HS := Lib.hid (add_step (A ||| B) k v (by omega) HV.out hb)
        have HQ : Hid (subB A B (k + 1) = false) := Lib.hid (by unfold subB; rw [ha, hb2, hq]; rfl)
        rw [ha] at hx
        rw [hb2] at hy
        clear hb ha hb2 hq
        go_wp2_with fail
        go_round
        case rel => exact ⟨k + 1, _, by omega, rfl, by go_num, by rw [HS.out], by rw [HQ.out]⟩
        case measure => simp [intOf]; omega
      · have hb : (A ||| B).testBit k = true := by rw [Nat.testBit_or, ha, hb2]; rfl
        have HS := Lib.hid (add_step (A ||| B) k v (by omega) HV.out hb)
        have HQ : Hid (subB A B (k + 1) = false) := Lib.hid (by unfold subB; rw [ha, hb2, hq]; rfl)
        rw [ha] at hx
        rw [hb2] at hy
        clear hb ha hb2 hq
        go_wp2_with fail
        go_round
        case rel => exact ⟨k + 1, _, by omega, rfl, by go_num, by rw [HS.out], by rw [HQ.out]⟩
        case measure => simp [intOf]; omega
      · have hb : (A ||| B).testBit k = true := by rw [Nat.testBit_or, ha, hb2]; rfl
        have HS := Lib.hid (add_step (A ||| B) k v (by omega) HV.out hb)
        have HQ : Hid (subB A B (k + 1) = false) := Lib.hid (by unfold subB; rw [ha, hb2, hq]; rfl)
        rw [ha] at hx
        rw [hb2] at hy
        clear hb ha hb2 hq
        go_wp2_with fail
        go_round
        case rel => exact ⟨k + 1, _, by omega, rfl, by go_num, by rw [HS.out], by rw [HQ.out]⟩
        case measure => simp [intOf]; omega
      · have hb : (A ||| B).testBit k = true := by rw [Nat.testBit_or, ha, hb2]; rfl
        have HS := Lib.hid (add_step (A ||| B) k v (by omega) HV.out hb)
        have HQ : Hid (subB A B (k + 1) = true) := Lib.hid (by unfold subB; rw [ha, hb2, hq]; rfl)
        rw [ha] at hx
        rw [hb2] at hy
        clear hb ha hb2 hq
        go_wp2_with fail
        go_round
        case rel => exact ⟨k + 1, _, by omega, rfl, by go_num, by rw [HS.out], by rw [HQ.out]⟩
        case measure => simp [intOf]; omega
    · obtain rfl : k = 16 := by omega
      have hz : v = A ||| B := HV.out.trans (Nat.mod_eq_of_lt (by have := HN.out; omega))
      subst hz
      go_wp2_with fail
      go_ret2
      exact ⟨rfl, rfl⟩

theorem sets_25 (A B : Nat) (hA : A ≤ 65535) (hB : B ≤ 65535) (w : World) :
    Calls Tryd.prog 28 #[.int .u8 25, .int .u16 A, .int .u16 B] w (Ret (((A &&& (65535 - B) : Nat) : Int), 0) w) := by
  have hN : A &&& (65535 - B) < 65536 := by have := and_le16 A (65535 - B) hA; omega
  have HN := Lib.hid hN
  clear hN
  go_enter Tryd.func28, Tryd.ntmps28
  go_wp2_with fail
  go_loop [8, 9, 10] (fun s p i => ∃ k v : Nat, k ≤ 16 ∧ v = (A &&& (65535 - B)) % 2 ^ k ∧ i = .int .u16 k ∧ s = .int .u16 v ∧ p = .bool (subB A B k)) (fun _ _ i => (16 - intOf i).toNat)
  case atStart => exact ⟨0, 0, by omega, by rw [Nat.pow_zero, Nat.mod_one], rfl, rfl, rfl⟩
  case round =>
    obtain ⟨k, v, hk, hv, rfl, rfl, rfl⟩ := hrel
    have HV := Lib.hid hv
    clear hv
    have d1 := divI A k
    have d2 := divI B k
    by_cases hk2 : k < 16
    · have hx := bitI A k
      have hy := bitI B k
      cases ha : A.testBit k <;> cases hb2 : B.testBit k <;> cases hq : subB A B k
      · have hb : (A &&& (65535 - B)).testBit k = false := by rw [Nat.testBit_and, ha]; rfl
        have HS := Lib.hid (keep_step (A &&& (65535 - B)) k v HV.out hb)
        have HQ : Hid (subB A B (k + 1) = false) := Lib.hid (by unfold subB; rw [ha, hb2, hq]; rfl)
        rw [ha] at hx
        rw [hb2] at hy
        clear hb ha hb2 hq
        go_wp2_with fail
        go_round
        case rel => exact ⟨k + 1, v, by omega, HS.out, by go_num, by rfl, by rw [HQ.out]⟩
        case measure => simp [intOf]; omega
      · have hb : (A &&& (65535 - B)).testBit k = false := by rw [Nat.testBit_and, ha]; rfl
        have HS := Lib.hid (keep_step (A &&& (65535 - B)) k v HV.out hb)
        have HQ : Hid (subB A B (k + 1) = true) := Lib.hid (by unfold subB; rw [ha, hb2, hq]; rfl)
        rw [ha] at hx
        rw [hb2] at hy
        clear hb ha hb2 hq
        go_wp2_with fail
        go_round
        case rel => exact ⟨k + 1, v, by omega, HS.out, by go_num, by rfl, by rw [HQ.out]⟩
        case measure => simp [intOf]; omega
      · have hb : (A &&& (65535 - B)).testBit k = false := by rw [Nat.testBit_and, ha]; rfl
        have HS := Lib.hid (keep_step (A &&& (65535 - B)) k v HV.out hb)
        have HQ : Hid (subB A B (k + 1) = false) := Lib.hid (by unfold subB; rw [ha, hb2, hq]; rfl)
        rw [ha] at hx
        rw [hb2] at hy
        clear hb ha hb2 hq
        go_wp2_with fail
        go_round
        case rel => exact ⟨k + 1, v, by omega, HS.out, by go_num, by rfl, by rw [HQ.out]⟩
        case measure => simp [intOf]; omega
      · have hb : (A &&& (65535 - B)).testBit k = false := by rw [Nat.testBit_and, ha]; rfl
        have HS := Lib.hid (keep_step (A &&& (65535 - B)) k v HV.out hb)
        have HQ : Hid (subB A B (k + 1) = true) := Lib.hid (by unfold subB; rw [ha, hb2, hq]; rfl)
        rw [ha] at hx
        rw [hb2] at hy
        clear hb ha hb2 hq
        go_wp2_with fail
        go_round
        case rel => exact ⟨k + 1, v, by omega, HS.out, by go_num, by rfl, by rw [HQ.out]⟩
        case measure => simp [intOf]; omega
      · have hb : (A &&& (65535 - B)).testBit k = true := by rw [Nat.testBit_and, not16 B hB, ha, hb2]; simp [hk2]
        have HS := Lib.hid (add_step (A &&& (65535 - B)) k v (by omega) HV.out hb)
        have HQ : Hid (subB A B (k + 1) = false) := Lib.hid (by unfold subB; rw [ha, hb2, hq]; rfl)
        rw [ha] at hx
        rw [hb2] at hy
        clear hb ha hb2 hq
        go_wp2_with fail
        go_round
        case rel => exact ⟨k + 1, _, by omega, rfl, by go_num, by rw [HS.out], by rw [HQ.out]⟩
        case measure => simp [intOf]; omega
      · have hb : (A &&& (65535 - B)).testBit k = true := by rw [Nat.testBit_and, not16 B hB, ha, hb2]; simp [hk2]
        have HS := Lib.hid (add_step (A &&& (65535 - B)) k v (by omega) HV.out hb)
        have HQ : Hid (subB A B (k + 1) = false) := Lib.hid (by unfold subB; rw [ha, hb2, hq]; rfl)
        rw [ha] at hx
        rw [hb2] at hy
        clear hb ha hb2 hq
        go_wp2_with fail
        go_round
        case rel => exact ⟨k + 1, _, by omega, rfl, by go_num, by rw [HS.out], by rw [HQ.out]⟩
        case measure => simp [intOf]; omega
      · have hb : (A &&& (65535 - B)).testBit k = false := by rw [Nat.testBit_and, not16 B hB, ha, hb2]; simp [hk2]
        have HS := Lib.hid (keep_step (A &&& (65535 - B)) k v HV.out hb)
        have HQ : Hid (subB A B (k + 1) = false) := Lib.hid (by unfold subB; rw [ha, hb2, hq]; rfl)
        rw [ha] at hx
        rw [hb2] at hy
        clear hb ha hb2 hq
        go_wp2_with fail
        go_round
        case rel => exact ⟨k + 1, v, by omega, HS.out, by go_num, by rfl, by rw [HQ.out]⟩
        case measure => simp [intOf]; omega
      · have hb : (A &&& (65535 - B)).testBit k = false := by rw [Nat.testBit_and, not16 B hB, ha, hb2]; simp [hk2]
        have HS := Lib.hid (keep_step (A &&& (65535 - B)) k v HV.out hb)
        have HQ : Hid (subB A B (k + 1) = true) := Lib.hid (by unfold subB; rw [ha, hb2, hq]; rfl)
        rw [ha] at hx
        rw [hb2] at hy
        clear hb ha hb2 hq
        go_wp2_with fail
        go_round
        case rel => exact ⟨k + 1, v, by omega, HS.out, by go_num, by rfl, by rw [HQ.out]⟩
        case measure => simp [intOf]; omega
    · obtain rfl : k = 16 := by omega
      have hz : v = A &&& (65535 - B) := HV.out.trans (Nat.mod_eq_of_lt (by have := HN.out; omega))
      subst hz
      go_wp2_with fail
      go_ret2
      exact ⟨rfl, rfl⟩

theorem sets_26 (A B : Nat) (hA : A ≤ 65535) (hB : B ≤ 65535) (w : World) :
    Calls Tryd.prog 28 #[.int .u8 26, .int .u16 A, .int .u16 B] w (Ret (((A &&& B : Nat) : Int), 0) w) := by
  have hN : A &&& B < 65536 := by have := and_le16 A B hA; omega
  have HN := Lib.hid hN
  clear hN
  go_enter Tryd.func28, Tryd.ntmps28
  go_wp2_with fail
  go_loop [8, 9, 10] (fun s p i => ∃ k v : Nat, k ≤ 16 ∧ v = (A &&& B) % 2 ^ k ∧ i = .int .u16 k ∧ s = .int .u16 v ∧ p = .bool (subB A B k)) (fun _ _ i => (16 - intOf i).toNat)
  case atStart => exact ⟨0, 0, by omega, by rw [Nat.pow_zero, Nat.mod_one], rfl, rfl, rfl⟩
  case round =>
    obtain ⟨k, v, hk, hv, rfl, rfl, rfl⟩ := hrel
    have HV := Lib.hid hv
    clear hv
    have d1 := divI A k
    have d2 := divI B k
    by_cases hk2 : k < 16
    · have hx := bitI A k
      have hy := bitI B k
      cases ha : A.testBit k <;> cases hb2 : B.testBit k <;> cases hq : subB A B k
      · have hb : (A &&& B).testBit k = false := by rw [Nat.testBit_and, ha, hb2]; rfl
        have HS := Lib.hid (keep_step (A &&& B) k v HV.out hb)
        have HQ : Hid (subB A B (k + 1) = false) := Lib.hid (by unfold subB; rw [ha, hb2, hq]; rfl)
        rw [ha] at hx
        rw [hb2] at hy
        clear hb ha hb2 hq
        go_wp2_with fail
        go_round
        case rel => exact ⟨k + 1, v, by omega, HS.out, by go_num, by rfl, by rw [HQ.out]⟩
        case measure => simp [intOf]; omega
      · have hb : (A &&& B).testBit k = false := by rw [Nat.testBit_and, ha, hb2]; rfl
        have HS := Lib.hid (keep_step (A &&& B) k v HV.out hb)
        have HQ : Hid (subB A B (k + 1) = true) := Lib.hid (by unfold subB; rw [ha, hb2, hq]; rfl)
        rw [ha] at hx
        rw [hb2] at hy
        clear hb ha hb2 hq
        go_wp2_with fail
        go_round
        case rel => exact ⟨k + 1, v, by omega, HS.out, by go_num, by rfl, by rw [HQ.out]⟩
        case measure => simp [intOf]; omega
      · have hb : (A &&& B).testBit k = false := by rw [Nat.testBit_and, ha, hb2]; rfl
        have HS := Lib.hid (keep_step (A &&& B) k v HV.out hb)
        have HQ : Hid (subB A B (k + 1) = false) := Lib.hid (by unfold subB; rw [ha, hb2, hq]; rfl)
        rw [ha] at hx
        rw [hb2] at hy
        clear hb ha hb2 hq
        go_wp2_with fail
        go_round
        case rel => exact ⟨k + 1, v, by omega, HS.out, by go_num, by rfl, by rw [HQ.out]⟩
        case measure => simp [intOf]; omega
      · have hb : (A &&& B).testBit k = false := by rw [Nat.testBit_and, ha, hb2]; rfl
        have HS := Lib.hid (keep_step (A &&& B) k v HV.out hb)
        have HQ : Hid (subB A B (k + 1) = true) := Lib.hid (by unfold subB; rw [ha, hb2, hq]; rfl)
        rw [ha] at hx
        rw [hb2] at hy
        clear hb ha hb2 hq
        go_wp2_with fail
        go_round
        case rel => exact ⟨k + 1, v, by omega, HS.out, by go_num, by rfl, by rw [HQ.out]⟩
        case measure => simp [intOf]; omega
      · have hb : (A &&& B).testBit k = false := by rw [Nat.testBit_and, ha, hb2]; rfl
        have HS := Lib.hid (keep_step (A &&& B) k v HV.out hb)
        have HQ : Hid (subB A B (k + 1) = false) := Lib.hid (by unfold subB; rw [ha, hb2, hq]; rfl)
        rw [ha] at hx
        rw [hb2] at hy
        clear hb ha hb2 hq
        go_wp2_with fail
        go_round
        case rel => exact ⟨k + 1, v, by omega, HS.out, by go_num, by rfl, by rw [HQ.out]⟩
        case measure => simp [intOf]; omega
      · have hb : (A &&& B).testBit k = false := by rw [Nat.testBit_and, ha, hb2]; rfl
        have HS := Lib.hid (keep_step (A &&& B) k v HV.out hb)
        have HQ : Hid (subB A B (k + 1) = false) := Lib.hid (by unfold subB; rw [ha, hb2, hq]; rfl)
        rw [ha] at hx
        rw [hb2] at hy
        clear hb ha hb2 hq
        go_wp2_with fail
        go_round
        case rel => exact ⟨k + 1, v, by omega, HS.out, by go_num, by rfl, by rw [HQ.out]⟩
        case measure => simp [intOf]; omega
      · have hb : (A &&& B).testBit k = true := by rw [Nat.testBit_and, ha, hb2]; rfl
        have HS := Lib.hid (add_step (A &&& B) k v (by omega) HV.out hb)
        have HQ : Hid (subB A B (k + 1) = false) := Lib.hid (by unfold subB; rw [ha, hb2, hq]; rfl)
        rw [ha] at hx
        rw [hb2] at hy
        clear hb ha hb2 hq
        go_wp2_with fail
        go_round
        case rel => exact ⟨k + 1, _, by omega, rfl, by go_num, by rw [HS.out], by rw [HQ.out]⟩
        case measure => simp [intOf]; omega
      · have hb : (A &&& B).testBit k = true := by rw [Nat.testBit_and, ha, hb2]; rfl
        have HS := Lib.hid (add_step (A &&& B) k v (by omega) HV.out hb)
        have HQ : Hid (subB A B (k + 1) = true) := Lib.hid (by unfold subB; rw [ha, hb2, hq]; rfl)
        rw [ha] at hx
        rw [hb2] at hy
        clear hb ha hb2 hq
        go_wp2_with fail
        go_round
        case rel => exact ⟨k + 1, _, by omega, rfl, by go_num, by rw [HS.out], by rw [HQ.out]⟩
        case measure => simp [intOf]; omega
    · obtain rfl : k = 16 := by omega
      have hz : v = A &&& B := HV.out.trans (Nat.mod_eq_of_lt (by have := HN.out; omega))
      subst hz
      go_wp2_with fail
      go_ret2
      exact ⟨rfl, rfl⟩

theorem sets_27 (A B : Nat) (hA : A ≤ 65535) (hB : B ≤ 65535) (w : World) :
    Calls Tryd.prog 28 #[.int .u8 27, .int .u16 A, .int .u16 B] w (Ret (((A ^^^ B : Nat) : Int), 0) w) := by
  have hN : A ^^^ B < 65536 := by have := xor_le16 A B hA hB; omega
  have HN := Lib.hid hN
  clear hN
  go_enter Tryd.func28, Tryd.ntmps28
  go_wp2_with fail
  go_loop [8, 9, 10] (fun s p i => ∃ k v : Nat, k ≤ 16 ∧ v = (A ^^^ B) % 2 ^ k ∧ i = .int .u16 k ∧ s = .int .u16 v ∧ p = .bool (subB A B k)) (fun _ _ i => (16 - intOf i).toNat)
  case atStart => exact ⟨0, 0, by omega, by rw [Nat.pow_zero, Nat.mod_one], rfl, rfl, rfl⟩
  case round =>
    obtain ⟨k, v, hk, hv, rfl, rfl, rfl⟩ := hrel
    have HV := Lib.hid hv
    clear hv
    have d1 := divI A k
    have d2 := divI B k
    by_cases hk2 : k < 16
    · have hx := bitI A k
      have hy := bitI B k
      cases ha : A.testBit k <;> cases hb2 : B.testBit k <;> cases hq : subB A B k
      · have hb : (A ^^^ B).testBit k = false := by rw [Nat.testBit_xor, ha, hb2]; rfl
        have HS := Lib.hid (keep_step (A ^^^ B) k v HV.out hb)
        have HQ : Hid (subB A B (k + 1) = false) := Lib.hid (by unfold subB; rw [ha, hb2, hq]; rfl)
        rw [ha] at hx
        rw [hb2] at hy
        clear hb ha hb2 hq
        go_wp2_with fail
        go_round
        case rel => exact ⟨k + 1, v, by omega, HS.out, by go_num, by rfl, by rw [HQ.out]⟩
        case measure => simp [intOf]; omega
      · have hb : (A ^^^ B).testBit k = false := by rw [Nat.testBit_xor, ha, hb2]; rfl
        have HS := Lib.hid (keep_step (A ^^^ B) k v HV.out hb)
        have HQ : Hid (subB A B (k + 1) = true) := Lib.hid (by unfold subB; rw [ha, hb2, hq]; rfl)
        rw [ha] at hx
        rw [hb2] at hy
        clear hb ha hb2 hq
        go_wp2_with fail
        go_round
        case rel => exact ⟨k + 1, v, by omega, HS.out, by go_num, by rfl, by rw [HQ.out]⟩
        case measure => simp [intOf]; omega
      · have hb : (A ^^^ B).testBit k = true := by rw [Nat.testBit_xor, ha, hb2]; rfl
        have HS := Lib.hid (add_step (A ^^^ B) k v (by omega) HV.out hb)
        have HQ : Hid (subB A B (k + 1) = false) := Lib.hid (by unfold subB; rw [ha, hb2, hq]; rfl)
        rw [ha] at hx
        rw [hb2] at hy
        clear hb ha hb2 hq
        go_wp2_with fail
        go_round
        case rel => exact ⟨k + 1, _, by omega, rfl, by go_num, by rw [HS.out], by rw [HQ.out]⟩
        case measure => simp [intOf]; omega
      · have hb : (A ^^^ B).testBit k = true := by rw [Nat.testBit_xor, ha, hb2]; rfl
        have HS := Lib.hid (add_step (A ^^^ B) k v (by omega) HV.out hb)
        have HQ : Hid (subB A B (k + 1) = true) := Lib.hid (by unfold subB; rw [ha, hb2, hq]; rfl)
        rw [ha] at hx
        rw [hb2] at hy
        clear hb ha hb2 hq
        go_wp2_with fail
        go_round
        case rel => exact ⟨k + 1, _, by omega, rfl, by go_num, by rw [HS.out], by rw [HQ.out]⟩
        case measure => simp [intOf]; omega
      · have hb : (A ^^^ B).testBit k = true := by rw [Nat.testBit_xor, ha, hb2]; rfl
        have HS := Lib.hid (add_step (A ^^^ B) k v (by omega) HV.out hb)
        have HQ : Hid (subB A B (k + 1) = false) := Lib.hid (by unfold subB; rw [ha, hb2, hq]; rfl)
        rw [ha] at hx
        rw [hb2] at hy
        clear hb ha hb2 hq
        go_wp2_with fail
        go_round
        case rel => exact ⟨k + 1, _, by omega, rfl, by go_num, by rw [HS.out], by rw [HQ.out]⟩
        case measure => simp [intOf]; omega
      · have hb : (A ^^^ B).testBit k = true := by rw [Nat.testBit_xor, ha, hb2]; rfl
        have HS := Lib.hid (add_step (A ^^^ B) k v (by omega) HV.out hb)
        have HQ : Hid (subB A B (k + 1) = false) := Lib.hid (by unfold subB; rw [ha, hb2, hq]; rfl)
        rw [ha] at hx
        rw [hb2] at hy
        clear hb ha hb2 hq
        go_wp2_with fail
        go_round
        case rel => exact ⟨k + 1, _, by omega, rfl, by go_num, by rw [HS.out], by rw [HQ.out]⟩
        case measure => simp [intOf]; omega
      · have hb : (A ^^^ B).testBit k = false := by rw [Nat.testBit_xor, ha, hb2]; rfl
        have HS := Lib.hid (keep_step (A ^^^ B) k v HV.out hb)
        have HQ : Hid (subB A B (k + 1) = false) := Lib.hid (by unfold subB; rw [ha, hb2, hq]; rfl)
        rw [ha] at hx
        rw [hb2] at hy
        clear hb ha hb2 hq
        go_wp2_with fail
        go_round
        case rel => exact ⟨k + 1, v, by omega, HS.out, by go_num, by rfl, by rw [HQ.out]⟩
        case measure => simp [intOf]; omega
      · have hb : (A ^^^ B).testBit k = false := by rw [Nat.testBit_xor, ha, hb2]; rfl
        have HS := Lib.hid (keep_step (A ^^^ B) k v HV.out hb)
        have HQ : Hid (subB A B (k + 1) = true) := Lib.hid (by unfold subB; rw [ha, hb2, hq]; rfl)
        rw [ha] at hx
        rw [hb2] at hy
        clear hb ha hb2 hq
        go_wp2_with fail
        go_round
        case rel => exact ⟨k + 1, v, by omega, HS.out, by go_num, by rfl, by rw [HQ.out]⟩
        case measure => simp [intOf]; omega
    · obtain rfl : k = 16 := by omega
      have hz : v = A ^^^ B := HV.out.trans (Nat.mod_eq_of_lt (by have := HN.out; omega))
      subst hz
      go_wp2_with fail
      go_ret2
      exact ⟨rfl, rfl⟩

theorem sets_29 (A B : Nat) (hA : A ≤ 65535) (hB : B ≤ 65535) (w : World) :
    Calls Tryd.prog 28 #[.int .u8 29, .int .u16 A, .int .u16 B] w (Ret (ask (decide (A &&& (65535 - B) = 0))) w) := by
  have hN : 0 < 65536 := by omega
  have HN := Lib.hid hN
  clear hN
  go_enter Tryd.func28, Tryd.ntmps28
  go_wp2_with fail
  go_loop [8, 9, 10] (fun s p i => ∃ k v : Nat, k ≤ 16 ∧ v = (0) % 2 ^ k ∧ i = .int .u16 k ∧ s = .int .u16 v ∧ p = .bool (subB A B k)) (fun _ _ i => (16 - intOf i).toNat)
  case atStart => exact ⟨0, 0, by omega, by rw [Nat.pow_zero, Nat.mod_one], rfl, rfl, rfl⟩
  case round =>
    obtain ⟨k, v, hk, hv, rfl, rfl, rfl⟩ := hrel
    have HV := Lib.hid hv
    clear hv
    have d1 := divI A k
    have d2 := divI B k
    by_cases hk2 : k < 16
    · have hx := bitI A k
      have hy := bitI B k
      cases ha : A.testBit k <;> cases hb2 : B.testBit k <;> cases hq : subB A B k
      · have hb : (0).testBit k = false := Nat.zero_testBit k
        have HS := Lib.hid (keep_step (0) k v HV.out hb)
        have HQ : Hid (subB A B (k + 1) = false) := Lib.hid (by unfold subB; rw [ha, hb2, hq]; rfl)
        rw [ha] at hx
        rw [hb2] at hy
        clear hb ha hb2 hq
        go_wp2_with fail
        go_round
        case rel => exact ⟨k + 1, v, by omega, HS.out, by go_num, by rfl, by rw [HQ.out]⟩
        case measure => simp [intOf]; omega
      · have hb : (0).testBit k = false := Nat.zero_testBit k
        have HS := Lib.hid (keep_step (0) k v HV.out hb)
        have HQ : Hid (subB A B (k + 1) = true) := Lib.hid (by unfold subB; rw [ha, hb2, hq]; rfl)
        rw [ha] at hx
        rw [hb2] at hy
        clear hb ha hb2 hq
        go_wp2_with fail
        go_round
        case rel => exact ⟨k + 1, v, by omega, HS.out, by go_num, by rfl, by rw [HQ.out]⟩
        case measure => simp [intOf]; omega
      · have hb : (0).testBit k = false := Nat.zero_testBit k
        have HS := Lib.hid (keep_step (0) k v HV.out hb)
        have HQ : Hid (subB A B (k + 1) = false) := Lib.hid (by unfold subB; rw [ha, hb2, hq]; rfl)
        rw [ha] at hx
        rw [hb2] at hy
        clear hb ha hb2 hq
        go_wp2_with fail
        go_round
        case rel => exact ⟨k + 1, v, by omega, HS.out, by go_num, by rfl, by rw [HQ.out]⟩
        case measure => simp [intOf]; omega
      · have hb : (0).testBit k = false := Nat.zero_testBit k
        have HS := Lib.hid (keep_step (0) k v HV.out hb)
        have HQ : Hid (subB A B (k + 1) = true) := Lib.hid (by unfold subB; rw [ha, hb2, hq]; rfl)
        rw [ha] at hx
        rw [hb2] at hy
        clear hb ha hb2 hq
        go_wp2_with fail
        go_round
        case rel => exact ⟨k + 1, v, by omega, HS.out, by go_num, by rfl, by rw [HQ.out]⟩
        case measure => simp [intOf]; omega
      · have hb : (0).testBit k = false := Nat.zero_testBit k
        have HS := Lib.hid (keep_step (0) k v HV.out hb)
        have HQ : Hid (subB A B (k + 1) = false) := Lib.hid (by unfold subB; rw [ha, hb2, hq]; rfl)
        rw [ha] at hx
        rw [hb2] at hy
        clear hb ha hb2 hq
        go_wp2_with fail
        go_round
        case rel => exact ⟨k + 1, v, by omega, HS.out, by go_num, by rfl, by rw [HQ.out]⟩
        case measure => simp [intOf]; omega
      · have hb : (0).testBit k = false := Nat.zero_testBit k
        have HS := Lib.hid (keep_step (0) k v HV.out hb)
        have HQ : Hid (subB A B (k + 1) = false) := Lib.hid (by unfold subB; rw [ha, hb2, hq]; rfl)
        rw [ha] at hx
        rw [hb2] at hy
        clear hb ha hb2 hq
        go_wp2_with fail
        go_round
        case rel => exact ⟨k + 1, v, by omega, HS.out, by go_num, by rfl, by rw [HQ.out]⟩
        case measure => simp [intOf]; omega
      · have hb : (0).testBit k = false := Nat.zero_testBit k
        have HS := Lib.hid (keep_step (0) k v HV.out hb)
        have HQ : Hid (subB A B (k + 1) = false) := Lib.hid (by unfold subB; rw [ha, hb2, hq]; rfl)
        rw [ha] at hx
        rw [hb2] at hy
        clear hb ha hb2 hq
        go_wp2_with fail
        go_round
        case rel => exact ⟨k + 1, v, by omega, HS.out, by go_num, by rfl, by rw [HQ.out]⟩
        case measure => simp [intOf]; omega
      · have hb : (0).testBit k = false := Nat.zero_testBit k
        have HS := Lib.hid (keep_step (0) k v HV.out hb)
        have HQ : Hid (subB A B (k + 1) = true) := Lib.hid (by unfold subB; rw [ha, hb2, hq]; rfl)
        rw [ha] at hx
        rw [hb2] at hy
        clear hb ha hb2 hq
        go_wp2_with fail
        go_round
        case rel => exact ⟨k + 1, v, by omega, HS.out, by go_num, by rfl, by rw [HQ.out]⟩
        case measure => simp [intOf]; omega
    · obtain rfl : k = 16 := by omega
      have HZ := Lib.hid (subB_16 A B hA hB)
      go_wp2_with fail
      refine (so_any _ _).mono ?_
      rintro e w1 ⟨rfl, rfl⟩
      go_wp2_with fail
      go_ret2
      exact ⟨ret_of (p := ask (subB A B 16)) (by rw [HZ.out]), rfl⟩

theorem sets_30_out (A B : Nat) (hA : A ≤ 65535) (hB : B ≤ 65535) (h : 15 < A) (w : World) :
    Calls Tryd.prog 28 #[.int .u8 30, .int .u16 A, .int .u16 B] w (Ret (0, 2) w) := by
  go_enter Tryd.func28, Tryd.ntmps28
  go_wp2_with fail
  go_ret2
  exact ⟨rfl, rfl⟩

theorem sets_30 (A B : Nat) (hA : A ≤ 65535) (hB : B ≤ 65535) (h15 : A ≤ 15) (w : World) :
    Calls Tryd.prog 28 #[.int .u8 30, .int .u16 A, .int .u16 B] w (Ret (((rowN A A : Nat) : Int), 0) w) := by
  have hN : rowN A A < 65536 := by have := rowN_le ⟨A, by omega⟩ ⟨A, by omega⟩; simp only at this; omega
  have HN := Lib.hid hN
  clear hN
  go_enter Tryd.func28, Tryd.ntmps28
  go_wp2_with fail
  go_loop [8, 9, 10] (fun s p i => ∃ k v : Nat, k ≤ 16 ∧ v = (rowN A A) % 2 ^ k ∧ i = .int .u16 k ∧ s = .int .u16 v ∧ p = .bool (subB A A k)) (fun _ _ i => (16 - intOf i).toNat)
  case atStart => exact ⟨0, 0, by omega, by rw [Nat.pow_zero, Nat.mod_one], rfl, rfl, rfl⟩
  case round =>
    obtain ⟨k, v, hk, hv, rfl, rfl, rfl⟩ := hrel
    have HV := Lib.hid hv
    clear hv
    have d1 := divI A k
    have d2 := divI B k
    by_cases hk2 : k < 16
    · have hx := bitI A k
      have hy := bitI A k
      have hrow := row_all ⟨k, by omega⟩ ⟨A, by omega⟩ ⟨A, by omega⟩
      simp only at hrow
      cases ha : A.testBit k <;> cases hq : subB A A k <;> by_cases c1 : A ≤ k <;> by_cases c2 : k ≤ A
      · have hb : (rowN A A).testBit k = true := by rw [hrow]; simp [c1, c2]
        have HS := Lib.hid (add_step (rowN A A) k v (by omega) HV.out hb)
        have HQ : Hid (subB A A (k + 1) = false) := Lib.hid (by unfold subB; rw [ha, hq]; rfl)
        rw [ha] at hx hy
        clear hb ha hq hrow
        go_wp2_with fail
        go_round
        case rel => exact ⟨k + 1, _, by omega, rfl, by go_num, by rw [HS.out], by rw [HQ.out]⟩
        case measure => simp [intOf]; omega
      · have hb : (rowN A A).testBit k = false := by rw [hrow]; simp [c1, c2]
        have HS := Lib.hid (keep_step (rowN A A) k v HV.out hb)
        have HQ : Hid (subB A A (k + 1) = false) := Lib.hid (by unfold subB; rw [ha, hq]; rfl)
        rw [ha] at hx hy
        clear hb ha hq hrow
        go_wp2_with fail
        go_round
        case rel => exact ⟨k + 1, v, by omega, HS.out, by go_num, by rfl, by rw [HQ.out]⟩
        case measure => simp [intOf]; omega
      · have hb : (rowN A A).testBit k = false := by rw [hrow]; simp [c1, c2]
        have HS := Lib.hid (keep_step (rowN A A) k v HV.out hb)
        have HQ : Hid (subB A A (k + 1) = false) := Lib.hid (by unfold subB; rw [ha, hq]; rfl)
        rw [ha] at hx hy
        clear hb ha hq hrow
        go_wp2_with fail
        go_round
        case rel => exact ⟨k + 1, v, by omega, HS.out, by go_num, by rfl, by rw [HQ.out]⟩
        case measure => simp [intOf]; omega
      · exfalso; omega
      · have hb : (rowN A A).testBit k = true := by rw [hrow]; simp [c1, c2]
        have HS := Lib.hid (add_step (rowN A A) k v (by omega) HV.out hb)
        have HQ : Hid (subB A A (k + 1) = true) := Lib.hid (by unfold subB; rw [ha, hq]; rfl)
        rw [ha] at hx hy
        clear hb ha hq hrow
        go_wp2_with fail
        go_round
        case rel => exact ⟨k + 1, _, by omega, rfl, by go_num, by rw [HS.out], by rw [HQ.out]⟩
        case measure => simp [intOf]; omega
      · have hb : (rowN A A).testBit k = false := by rw [hrow]; simp [c1, c2]
        have HS := Lib.hid (keep_step (rowN A A) k v HV.out hb)
        have HQ : Hid (subB A A (k + 1) = true) := Lib.hid (by unfold subB; rw [ha, hq]; rfl)
        rw [ha] at hx hy
        clear hb ha hq hrow
        go_wp2_with fail
        go_round
        case rel => exact ⟨k + 1, v, by omega, HS.out, by go_num, by rfl, by rw [HQ.out]⟩
        case measure => simp [intOf]; omega
      · have hb : (rowN A A).testBit k = false := by rw [hrow]; simp [c1, c2]
        have HS := Lib.hid (keep_step (rowN A A) k v HV.out hb)
        have HQ : Hid (subB A A (k + 1) = true) := Lib.hid (by unfold subB; rw [ha, hq]; rfl)
        rw [ha] at hx hy
        clear hb ha hq hrow
        go_wp2_with fail
        go_round
        case rel => exact ⟨k + 1, v, by omega, HS.out, by go_num, by rfl, by rw [HQ.out]⟩
        case measure => simp [intOf]; omega
      · exfalso; omega
      · have hb : (rowN A A).testBit k = true := by rw [hrow]; simp [c1, c2]
        have HS := Lib.hid (add_step (rowN A A) k v (by omega) HV.out hb)
        have HQ : Hid (subB A A (k + 1) = false) := Lib.hid (by unfold subB; rw [ha, hq]; rfl)
        rw [ha] at hx hy
        clear hb ha hq hrow
        go_wp2_with fail
        go_round
        case rel => exact ⟨k + 1, _, by omega, rfl, by go_num, by rw [HS.out], by rw [HQ.out]⟩
        case measure => simp [intOf]; omega
      · have hb : (rowN A A).testBit k = false := by rw [hrow]; simp [c1, c2]
        have HS := Lib.hid (keep_step (rowN A A) k v HV.out hb)
        have HQ : Hid (subB A A (k + 1) = false) := Lib.hid (by unfold subB; rw [ha, hq]; rfl)
        rw [ha] at hx hy
        clear hb ha hq hrow
        go_wp2_with fail
        go_round
        case rel => exact ⟨k + 1, v, by omega, HS.out, by go_num, by rfl, by rw [HQ.out]⟩
        case measure => simp [intOf]; omega
      · have hb : (rowN A A).testBit k = false := by rw [hrow]; simp [c1, c2]
        have HS := Lib.hid (keep_step (rowN A A) k v HV.out hb)
        have HQ : Hid (subB A A (k + 1) = false) := Lib.hid (by unfold subB; rw [ha, hq]; rfl)
        rw [ha] at hx hy
        clear hb ha hq hrow
        go_wp2_with fail
        go_round
        case rel => exact ⟨k + 1, v, by omega, HS.out, by go_num, by rfl, by rw [HQ.out]⟩
        case measure => simp [intOf]; omega
      · exfalso; omega
      · have hb : (rowN A A).testBit k = true := by rw [hrow]; simp [c1, c2]
        have HS := Lib.hid (add_step (rowN A A) k v (by omega) HV.out hb)
        have HQ : Hid (subB A A (k + 1) = true) := Lib.hid (by unfold subB; rw [ha, hq]; rfl)
        rw [ha] at hx hy
        clear hb ha hq hrow
        go_wp2_with fail
        go_round
        case rel => exact ⟨k + 1, _, by omega, rfl, by go_num, by rw [HS.out], by rw [HQ.out]⟩
        case measure => simp [intOf]; omega
      · have hb : (rowN A A).testBit k = false := by rw [hrow]; simp [c1, c2]
        have HS := Lib.hid (keep_step (rowN A A) k v HV.out hb)
        have HQ : Hid (subB A A (k + 1) = true) := Lib.hid (by unfold subB; rw [ha, hq]; rfl)
        rw [ha] at hx hy
        clear hb ha hq hrow
        go_wp2_with fail
        go_round
        case rel => exact ⟨k + 1, v, by omega, HS.out, by go_num, by rfl, by rw [HQ.out]⟩
        case measure => simp [intOf]; omega
      · have hb : (rowN A A).testBit k = false := by rw [hrow]; simp [c1, c2]
        have HS := Lib.hid (keep_step (rowN A A) k v HV.out hb)
        have HQ : Hid (subB A A (k + 1) = true) := Lib.hid (by unfold subB; rw [ha, hq]; rfl)
        rw [ha] at hx hy
        clear hb ha hq hrow
        go_wp2_with fail
        go_round
        case rel => exact ⟨k + 1, v, by omega, HS.out, by go_num, by rfl, by rw [HQ.out]⟩
        case measure => simp [intOf]; omega
      · exfalso; omega
    · obtain rfl : k = 16 := by omega
      have hz : v = rowN A A := HV.out.trans (Nat.mod_eq_of_lt (by have := HN.out; omega))
      subst hz
      go_wp2_with fail
      go_ret2
      exact ⟨rfl, rfl⟩

theorem sets_31_out (A B : Nat) (hA : A ≤ 65535) (hB : B ≤ 65535) (h : 15 < A ∨ 15 < B) (w : World) :
    Calls Tryd.prog 28 #[.int .u8 31, .int .u16 A, .int .u16 B] w (Ret (0, 2) w) := by
  by_cases h2 : 15 < A
  · go_enter Tryd.func28, Tryd.ntmps28
    go_wp2_with fail
    go_ret2
    exact ⟨rfl, rfl⟩
  · have h3 : 15 < B := by omega
    go_enter Tryd.func28, Tryd.ntmps28
    go_wp2_with fail
    go_ret2
    exact ⟨rfl, rfl⟩

theorem sets_31 (A B : Nat) (hA : A ≤ 65535) (hB : B ≤ 65535) (h15 : A ≤ 15) (g15 : B ≤ 15) (w : World) :
    Calls Tryd.prog 28 #[.int .u8 31, .int .u16 A, .int .u16 B] w (Ret (((rowN A B : Nat) : Int), 0) w) := by
  have hN : rowN A B < 65536 := by have := rowN_le ⟨A, by omega⟩ ⟨B, by omega⟩; simp only at this; omega
  have HN := Lib.hid hN
  clear hN
  go_enter Tryd.func28, Tryd.ntmps28
  go_wp2_with fail
  go_loop [8, 9, 10] (fun s p i => ∃ k v : Nat, k ≤ 16 ∧ v = (rowN A B) % 2 ^ k ∧ i = .int .u16 k ∧ s = .int .u16 v ∧ p = .bool (subB A B k)) (fun _ _ i => (16 - intOf i).toNat)
  case atStart => exact ⟨0, 0, by omega, by rw [Nat.pow_zero, Nat.mod_one], rfl, rfl, rfl⟩
  case round =>
    obtain ⟨k, v, hk, hv, rfl, rfl, rfl⟩ := hrel
    have HV := Lib.hid hv
    clear hv
    have d1 := divI A k
    have d2 := divI B k
    by_cases hk2 : k < 16
    · have hx := bitI A k
      have hy := bitI B k
      have hrow := row_all ⟨k, by omega⟩ ⟨A, by omega⟩ ⟨B, by omega⟩
      simp only at hrow
      cases ha : A.testBit k <;> cases hb2 : B.testBit k <;> cases hq : subB A B k <;> by_cases c1 : A ≤ k <;> by_cases c2 : k ≤ B
      · have hb : (rowN A B).testBit k = true := by rw [hrow]; simp [c1, c2]
        have HS := Lib.hid (add_step (rowN A B) k v (by omega) HV.out hb)
        have HQ : Hid (subB A B (k + 1) = false) := Lib.hid (by unfold subB; rw [ha, hb2, hq]; rfl)
        rw [ha] at hx
        rw [hb2] at hy
        clear hb ha hb2 hq hrow
        go_wp2_with fail
        go_round
        case rel => exact ⟨k + 1, _, by omega, rfl, by go_num, by rw [HS.out], by rw [HQ.out]⟩
        case measure => simp [intOf]; omega
      · have hb : (rowN A B).testBit k = false := by rw [hrow]; simp [c1, c2]
        have HS := Lib.hid (keep_step (rowN A B) k v HV.out hb)
        have HQ : Hid (subB A B (k + 1) = false) := Lib.hid (by unfold subB; rw [ha, hb2, hq]; rfl)
        rw [ha] at hx
        rw [hb2] at hy
        clear hb ha hb2 hq hrow
        go_wp2_with fail
        go_round
        case rel => exact ⟨k + 1, v, by omega, HS.out, by go_num, by rfl, by rw [HQ.out]⟩
        case measure => simp [intOf]; omega
      · have hb : (rowN A B).testBit k = false := by rw [hrow]; simp [c1, c2]
        have HS := Lib.hid (keep_step (rowN A B) k v HV.out hb)
        have HQ : Hid (subB A B (k + 1) = false) := Lib.hid (by unfold subB; rw [ha, hb2, hq]; rfl)
        rw [ha] at hx
        rw [hb2] at hy
        clear hb ha hb2 hq hrow
        go_wp2_with fail
        go_round
        case rel => exact ⟨k + 1, v, by omega, HS.out, by go_num, by rfl, by rw [HQ.out]⟩
        case measure => simp [intOf]; omega
      · have hb : (rowN A B).testBit k = false := by rw [hrow]; simp [c1, c2]
        have HS := Lib.hid (keep_step (rowN A B) k v HV.out hb)
        have HQ : Hid (subB A B (k + 1) = false) := Lib.hid (by unfold subB; rw [ha, hb2, hq]; rfl)
        rw [ha] at hx
        rw [hb2] at hy
        clear hb ha hb2 hq hrow
        go_wp2_with fail
        go_round
        case rel => exact ⟨k + 1, v, by omega, HS.out, by go_num, by rfl, by rw [HQ.out]⟩
        case measure => simp [intOf]; omega
      · have hb : (rowN A B).testBit k = true := by rw [hrow]; simp [c1, c2]
        have HS := Lib.hid (add_step (rowN A B) k v (by omega) HV.out hb)
        have HQ : Hid (subB A B (k + 1) = true) := Lib.hid (by unfold subB; rw [ha, hb2, hq]; rfl)
        rw [ha] at hx
        rw [hb2] at hy
        clear hb ha hb2 hq hrow
        go_wp2_with fail
        go_round
        case rel => exact ⟨k + 1, _, by omega, rfl, by go_num, by rw [HS.out], by rw [HQ.out]⟩
        case measure => simp [intOf]; omega
      · have hb : (rowN A B).testBit k = false := by rw [hrow]; simp [c1, c2]
        have HS := Lib.hid (keep_step (rowN A B) k v HV.out hb)
        have HQ : Hid (subB A B (k + 1) = true) := Lib.hid (by unfold subB; rw [ha, hb2, hq]; rfl)
        rw [ha] at hx
        rw [hb2] at hy
        clear hb ha hb2 hq hrow
        go_wp2_with fail
        go_round
        case rel => exact ⟨k + 1, v, by omega, HS.out, by go_num, by rfl, by rw [HQ.out]⟩
        case measure => simp [intOf]; omega
      · have hb : (rowN A B).testBit k = false := by rw [hrow]; simp [c1, c2]
        have HS := Lib.hid (keep_step (rowN A B) k v HV.out hb)
        have HQ : Hid (subB A B (k + 1) = true) := Lib.hid (by unfold subB; rw [ha, hb2, hq]; rfl)
        rw [ha] at hx
        rw [hb2] at hy
        clear hb ha hb2 hq hrow
        go_wp2_with fail
        go_round
        case rel => exact ⟨k + 1, v, by omega, HS.out, by go_num, by rfl, by rw [HQ.out]⟩
        case measure => simp [intOf]; omega
      · have hb : (rowN A B).testBit k = false := by rw [hrow]; simp [c1, c2]
        have HS := Lib.hid (keep_step (rowN A B) k v HV.out hb)
        have HQ : Hid (subB A B (k + 1) = true) := Lib.hid (by unfold subB; rw [ha, hb2, hq]; rfl)
        rw [ha] at hx
        rw [hb2] at hy
        clear hb ha hb2 hq hrow
        go_wp2_with fail
        go_round
        case rel => exact ⟨k + 1, v, by omega, HS.out, by go_num, by rfl, by rw [HQ.out]⟩
        case measure => simp [intOf]; omega
      · have hb : (rowN A B).testBit k = true := by rw [hrow]; simp [c1, c2]
        have HS := Lib.hid (add_step (rowN A B) k v (by omega) HV.out hb)
        have HQ : Hid (subB A B (k + 1) = false) := Lib.hid (by unfold subB; rw [ha, hb2, hq]; rfl)
        rw [ha] at hx
        rw [hb2] at hy
        clear hb ha hb2 hq hrow
        go_wp2_with fail
        go_round
        case rel => exact ⟨k + 1, _, by omega, rfl, by go_num, by rw [HS.out], by rw [HQ.out]⟩
        case measure => simp [intOf]; omega
      · have hb : (rowN A B).testBit k = false := by rw [hrow]; simp [c1, c2]
        have HS := Lib.hid (keep_step (rowN A B) k v HV.out hb)
        have HQ : Hid (subB A B (k + 1) = false) := Lib.hid (by unfold subB; rw [ha, hb2, hq]; rfl)
        rw [ha] at hx
        rw [hb2] at hy
        clear hb ha hb2 hq hrow
        go_wp2_with fail
        go_round
        case rel => exact ⟨k + 1, v, by omega, HS.out, by go_num, by rfl, by rw [HQ.out]⟩
        case measure => simp [intOf]; omega
      · have hb : (rowN A B).testBit k = false := by rw [hrow]; simp [c1, c2]
        have HS := Lib.hid (keep_step (rowN A B) k v HV.out hb)
        have HQ : Hid (subB A B (k + 1) = false) := Lib.hid (by unfold subB; rw [ha, hb2, hq]; rfl)
        rw [ha] at hx
        rw [hb2] at hy
        clear hb ha hb2 hq hrow
        go_wp2_with fail
        go_round
        case rel => exact ⟨k + 1, v, by omega, HS.out, by go_num, by rfl, by rw [HQ.out]⟩
        case measure => simp [intOf]; omega
      · have hb : (rowN A B).testBit k = false := by rw [hrow]; simp [c1, c2]
        have HS := Lib.hid (keep_step (rowN A B) k v HV.out hb)
        have HQ : Hid (subB A B (k + 1) = false) := Lib.hid (by unfold subB; rw [ha, hb2, hq]; rfl)
        rw [ha] at hx
        rw [hb2] at hy
        clear hb ha hb2 hq hrow
        go_wp2_with fail
        go_round
        case rel => exact ⟨k + 1, v, by omega, HS.out, by go_num, by rfl, by rw [HQ.out]⟩
        case measure => simp [intOf]; omega
      · have hb : (rowN A B).testBit k = true := by rw [hrow]; simp [c1, c2]
        have HS := Lib.hid (add_step (rowN A B) k v (by omega) HV.out hb)
        have HQ : Hid (subB A B (k + 1) = true) := Lib.hid (by unfold subB; rw [ha, hb2, hq]; rfl)
        rw [ha] at hx
        rw [hb2] at hy
        clear hb ha hb2 hq hrow
        go_wp2_with fail
        go_round
        case rel => exact ⟨k + 1, _, by omega, rfl, by go_num, by rw [HS.out], by rw [HQ.out]⟩
        case measure => simp [intOf]; omega
      · have hb : (rowN A B).testBit k = false := by rw [hrow]; simp [c1, c2]
        have HS := Lib.hid (keep_step (rowN A B) k v HV.out hb)
        have HQ : Hid (subB A B (k + 1) = true) := Lib.hid (by unfold subB; rw [ha, hb2, hq]; rfl)
        rw [ha] at hx
        rw [hb2] at hy
        clear hb ha hb2 hq hrow
        go_wp2_with fail
        go_round
        case rel => exact ⟨k + 1, v, by omega, HS.out, by go_num, by rfl, by rw [HQ.out]⟩
        case measure => simp [intOf]; omega
      · have hb : (rowN A B).testBit k = false := by rw [hrow]; simp [c1, c2]
        have HS := Lib.hid (keep_step (rowN A B) k v HV.out hb)
        have HQ : Hid (subB A B (k + 1) = true) := Lib.hid (by unfold subB; rw [ha, hb2, hq]; rfl)
        rw [ha] at hx
        rw [hb2] at hy
        clear hb ha hb2 hq hrow
        go_wp2_with fail
        go_round
        case rel => exact ⟨k + 1, v, by omega, HS.out, by go_num, by rfl, by rw [HQ.out]⟩
        case measure => simp [intOf]; omega
      · have hb : (rowN A B).testBit k = false := by rw [hrow]; simp [c1, c2]
        have HS := Lib.hid (keep_step (rowN A B) k v HV.out hb)
        have HQ : Hid (subB A B (k + 1) = true) := Lib.hid (by unfold subB; rw [ha, hb2, hq]; rfl)
        rw [ha] at hx
        rw [hb2] at hy
        clear hb ha hb2 hq hrow
        go_wp2_with fail
        go_round
        case rel => exact ⟨k + 1, v, by omega, HS.out, by go_num, by rfl, by rw [HQ.out]⟩
        case measure => simp [intOf]; omega
      · have hb : (rowN A B).testBit k = true := by rw [hrow]; simp [c1, c2]
        have HS := Lib.hid (add_step (rowN A B) k v (by omega) HV.out hb)
        have HQ : Hid (subB A B (k + 1) = false) := Lib.hid (by unfold subB; rw [ha, hb2, hq]; rfl)
        rw [ha] at hx
        rw [hb2] at hy
        clear hb ha hb2 hq hrow
        go_wp2_with fail
        go_round
        case rel => exact ⟨k + 1, _, by omega, rfl, by go_num, by rw [HS.out], by rw [HQ.out]⟩
        case measure => simp [intOf]; omega
      · have hb : (rowN A B).testBit k = false := by rw [hrow]; simp [c1, c2]
        have HS := Lib.hid (keep_step (rowN A B) k v HV.out hb)
        have HQ : Hid (subB A B (k + 1) = false) := Lib.hid (by unfold subB; rw [ha, hb2, hq]; rfl)
        rw [ha] at hx
        rw [hb2] at hy
        clear hb ha hb2 hq hrow
        go_wp2_with fail
        go_round
        case rel => exact ⟨k + 1, v, by omega, HS.out, by go_num, by rfl, by rw [HQ.out]⟩
        case measure => simp [intOf]; omega
      · have hb : (rowN A B).testBit k = false := by rw [hrow]; simp [c1, c2]
        have HS := Lib.hid (keep_step (rowN A B) k v HV.out hb)
        have HQ : Hid (subB A B (k + 1) = false) := Lib.hid (by unfold subB; rw [ha, hb2, hq]; rfl)
        rw [ha] at hx
        rw [hb2] at hy
        clear hb ha hb2 hq hrow
        go_wp2_with fail
        go_round
        case rel => exact ⟨k + 1, v, by omega, HS.out, by go_num, by rfl, by rw [HQ.out]⟩
        case measure => simp [intOf]; omega
      · have hb : (rowN A B).testBit k = false := by rw [hrow]; simp [c1, c2]
        have HS := Lib.hid (keep_step (rowN A B) k v HV.out hb)
        have HQ : Hid (subB A B (k + 1) = false) := Lib.hid (by unfold subB; rw [ha, hb2, hq]; rfl)
        rw [ha] at hx
        rw [hb2] at hy
        clear hb ha hb2 hq hrow
        go_wp2_with fail
        go_round
        case rel => exact ⟨k + 1, v, by omega, HS.out, by go_num, by rfl, by rw [HQ.out]⟩
        case measure => simp [intOf]; omega
      · have hb : (rowN A B).testBit k = true := by rw [hrow]; simp [c1, c2]
        have HS := Lib.hid (add_step (rowN A B) k v (by omega) HV.out hb)
        have HQ : Hid (subB A B (k + 1) = false) := Lib.hid (by unfold subB; rw [ha, hb2, hq]; rfl)
        rw [ha] at hx
        rw [hb2] at hy
        clear hb ha hb2 hq hrow
        go_wp2_with fail
        go_round
        case rel => exact ⟨k + 1, _, by omega, rfl, by go_num, by rw [HS.out], by rw [HQ.out]⟩
        case measure => simp [intOf]; omega
      · have hb : (rowN A B).testBit k = false := by rw [hrow]; simp [c1, c2]
        have HS := Lib.hid (keep_step (rowN A B) k v HV.out hb)
        have HQ : Hid (subB A B (k + 1) = false) := Lib.hid (by unfold subB; rw [ha, hb2, hq]; rfl)
        rw [ha] at hx
        rw [hb2] at hy
        clear hb ha hb2 hq hrow
        go_wp2_with fail
        go_round
        case rel => exact ⟨k + 1, v, by omega, HS.out, by go_num, by rfl, by rw [HQ.out]⟩
        case measure => simp [intOf]; omega
      · have hb : (rowN A B).testBit k = false := by rw [hrow]; simp [c1, c2]
        have HS := Lib.hid (keep_step (rowN A B) k v HV.out hb)
        have HQ : Hid (subB A B (k + 1) = false) := Lib.hid (by unfold subB; rw [ha, hb2, hq]; rfl)
        rw [ha] at hx
        rw [hb2] at hy
        clear hb ha hb2 hq hrow
        go_wp2_with fail
        go_round
        case rel => exact ⟨k + 1, v, by omega, HS.out, by go_num, by rfl, by rw [HQ.out]⟩
        case measure => simp [intOf]; omega
      · have hb : (rowN A B).testBit k = false := by rw [hrow]; simp [c1, c2]
        have HS := Lib.hid (keep_step (rowN A B) k v HV.out hb)
        have HQ : Hid (subB A B (k + 1) = false) := Lib.hid (by unfold subB; rw [ha, hb2, hq]; rfl)
        rw [ha] at hx
        rw [hb2] at hy
        clear hb ha hb2 hq hrow
        go_wp2_with fail
        go_round
        case rel => exact ⟨k + 1, v, by omega, HS.out, by go_num, by rfl, by rw [HQ.out]⟩
        case measure => simp [intOf]; omega
      · have hb : (rowN A B).testBit k = true := by rw [hrow]; simp [c1, c2]
        have HS := Lib.hid (add_step (rowN A B) k v (by omega) HV.out hb)
        have HQ : Hid (subB A B (k + 1) = false) := Lib.hid (by unfold subB; rw [ha, hb2, hq]; rfl)
        rw [ha] at hx
        rw [hb2] at hy
        clear hb ha hb2 hq hrow
        go_wp2_with fail
        go_round
        case rel => exact ⟨k + 1, _, by omega, rfl, by go_num, by rw [HS.out], by rw [HQ.out]⟩
        case measure => simp [intOf]; omega
      · have hb : (rowN A B).testBit k = false := by rw [hrow]; simp [c1, c2]
        have HS := Lib.hid (keep_step (rowN A B) k v HV.out hb)
        have HQ : Hid (subB A B (k + 1) = false) := Lib.hid (by unfold subB; rw [ha, hb2, hq]; rfl)
        rw [ha] at hx
        rw [hb2] at hy
        clear hb ha hb2 hq hrow
        go_wp2_with fail
        go_round
        case rel => exact ⟨k + 1, v, by omega, HS.out, by go_num, by rfl, by rw [HQ.out]⟩
        case measure => simp [intOf]; omega
      · have hb : (rowN A B).testBit k = false := by rw [hrow]; simp [c1, c2]
        have HS := Lib.hid (keep_step (rowN A B) k v HV.out hb)
        have HQ : Hid (subB A B (k + 1) = false) := Lib.hid (by unfold subB; rw [ha, hb2, hq]; rfl)
        rw [ha] at hx
        rw [hb2] at hy
        clear hb ha hb2 hq hrow
        go_wp2_with fail
        go_round
        case rel => exact ⟨k + 1, v, by omega, HS.out, by go_num, by rfl, by rw [HQ.out]⟩
        case measure => simp [intOf]; omega
      · have hb : (rowN A B).testBit k = false := by rw [hrow]; simp [c1, c2]
        have HS := Lib.hid (keep_step (rowN A B) k v HV.out hb)
        have HQ : Hid (subB A B (k + 1) = false) := Lib.hid (by unfold subB; rw [ha, hb2, hq]; rfl)
        rw [ha] at hx
        rw [hb2] at hy
        clear hb ha hb2 hq hrow
        go_wp2_with fail
        go_round
        case rel => exact ⟨k + 1, v, by omega, HS.out, by go_num, by rfl, by rw [HQ.out]⟩
        case measure => simp [intOf]; omega
      · have hb : (rowN A B).testBit k = true := by rw [hrow]; simp [c1, c2]
        have HS := Lib.hid (add_step (rowN A B) k v (by omega) HV.out hb)
        have HQ : Hid (subB A B (k + 1) = true) := Lib.hid (by unfold subB; rw [ha, hb2, hq]; rfl)
        rw [ha] at hx
        rw [hb2] at hy
        clear hb ha hb2 hq hrow
        go_wp2_with fail
        go_round
        case rel => exact ⟨k + 1, _, by omega, rfl, by go_num, by rw [HS.out], by rw [HQ.out]⟩
        case measure => simp [intOf]; omega
      · have hb : (rowN A B).testBit k = false := by rw [hrow]; simp [c1, c2]
        have HS := Lib.hid (keep_step (rowN A B) k v HV.out hb)
        have HQ : Hid (subB A B (k + 1) = true) := Lib.hid (by unfold subB; rw [ha, hb2, hq]; rfl)
        rw [ha] at hx
        rw [hb2] at hy
        clear hb ha hb2 hq hrow
        go_wp2_with fail
        go_round
        case rel => exact ⟨k + 1, v, by omega, HS.out, by go_num, by rfl, by rw [HQ.out]⟩
        case measure => simp [intOf]; omega
      · have hb : (rowN A B).testBit k = false := by rw [hrow]; simp [c1, c2]
        have HS := Lib.hid (keep_step (rowN A B) k v HV.out hb)
        have HQ : Hid (subB A B (k + 1) = true) := Lib.hid (by unfold subB; rw [ha, hb2, hq]; rfl)
        rw [ha] at hx
        rw [hb2] at hy
        clear hb ha hb2 hq hrow
        go_wp2_with fail
        go_round
        case rel => exact ⟨k + 1, v, by omega, HS.out, by go_num, by rfl, by rw [HQ.out]⟩
        case measure => simp [intOf]; omega
      · have hb : (rowN A B).testBit k = false := by rw [hrow]; simp [c1, c2]
        have HS := Lib.hid (keep_step (rowN A B) k v HV.out hb)
        have HQ : Hid (subB A B (k + 1) = true) := Lib.hid (by unfold subB; rw [ha, hb2, hq]; rfl)
        rw [ha] at hx
        rw [hb2] at hy
        clear hb ha hb2 hq hrow
        go_wp2_with fail
        go_round
        case rel => exact ⟨k + 1, v, by omega, HS.out, by go_num, by rfl, by rw [HQ.out]⟩
        case measure => simp [intOf]; omega
    · obtain rfl : k = 16 := by omega
      have hz : v = rowN A B := HV.out.trans (Nat.mod_eq_of_lt (by have := HN.out; omega))
      subst hz
      go_wp2_with fail
      go_ret2
      exact ⟨rfl, rfl⟩
end Go.Proofs.YtgghdllbegkioaaDoor
