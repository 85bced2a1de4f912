/- The statement on numbers, walked. -/
import Derived.Test.YtkeomcdcjfgacaaDoorLzP
import Derived.Test.YtkeomcdcjfgacaaDoorLyP
namespace Go.Proofs.YtkeomcdcjfgacaaDoor
open Go.RowKit
set_option maxHeartbeats 4000000
set_option maxRecDepth 100000
set_option linter.unusedVariables false

theorem digs_short (base : Nat) (hb : 2 ≤ base) : ∀ (n u : Nat), u < base ^ (n + 1) → (digsB base hb u).length ≤ n + 1
  | 0, u, h => by rw [digsB, dif_pos (by simpa using h)]; simp
  | n + 1, u, h => by
    rw [digsB]
    by_cases h2 : u < base
    · rw [dif_pos h2]; simp
    · rw [dif_neg h2]
      have := digs_short base hb n (u / base) (by rw [Nat.pow_succ, Nat.mul_comm] at h; exact Nat.div_lt_of_lt_mul h)
      simp only [List.length_append, List.length_singleton]
      omega
def digR (base : Nat) (hb : 2 ≤ base) (m : Nat) : List UInt8 := if m = 0 then [] else digsB base hb m
theorem digs_step (base : Nat) (hb : 2 ≤ base) (m : Nat) : digsB base hb m = digR base hb (m / base) ++ [hexC (m % base)] := by
  unfold digR
  rw [digsB]
  by_cases h8 : m < base
  · rw [dif_pos h8, Nat.div_eq_of_lt h8, if_pos rfl, Nat.mod_eq_of_lt h8]; rfl
  · rw [dif_neg h8, if_neg (by have := Nat.div_pos (show base ≤ m by omega) (by omega); omega)]
theorem zdigs_8 (n : Nat) (hn : n ≤ 65535) (w : World) :
    Calls Tryd.prog 15 #[.int .i64 n, .int .i64 8] w fun e w' => e = .returned (.string ⟨(digsB 8 (by omega) n).toArray⟩) ∧ Below w.heap.size w w' := by
  have conv := conv1
  go_enter Tryd.func15, Tryd.ntmps15
  go_wp2_with fail
  go_loopw [0, 5] (fun n' t wr => ∃ (m : Nat) (l : List UInt8), m ≤ 65535 ∧ n' = .int .i64 m ∧ t = .string ⟨l.toArray⟩ ∧ Below w.heap.size w wr ∧ ((l = [] ∧ m = n) ∨ (l ≠ [] ∧ digsB 8 (by omega) n = digR 8 (by omega) m ++ l)))
    (fun n' t _ => (intOf n').toNat + muS t)
  case atStart => exact ⟨n, [], hn, rfl, rfl, Below.refl _ _, .inl ⟨rfl, rfl⟩⟩
  case round =>
    obtain ⟨m, l, hm, rfl, rfl, hb, hc⟩ := hrel
    have HC := Lib.hid hc
    have hll : l.length ≤ 18 := by
      have ho := digs_short 8 (by omega) 5 n (by omega)
      rcases hc with ⟨rfl, _⟩ | ⟨_, h⟩
      · simp
      · have := congrArg List.length h
        rw [List.length_append] at this
        omega
    clear hc
    have hsz := hb.size
    have hgo : 0 < m ∨ (m = 0 ∧ l = []) ∨ (m = 0 ∧ l ≠ []) := by
      by_cases h0 : 0 < m
      · exact .inl h0
      · by_cases h1 : l = []
        · exact .inr (.inl ⟨by omega, h1⟩)
        · exact .inr (.inr ⟨by omega, h1⟩)
    rcases hgo with h0 | ⟨rfl, rfl⟩ | ⟨rfl, h1⟩
    · have HK : Hid (digsB 8 (by omega) n = digR 8 (by omega) (m / 8) ++ (hexC (m % 8) :: l)) := Lib.hid (by
        rcases HC.out with ⟨rfl, rfl⟩ | ⟨_, h⟩
        · exact digs_step 8 (by omega) m
        · rw [h]
          unfold digR
          rw [if_neg (by omega)]
          have := digs_step 8 (by omega) m
          unfold digR at this
          rw [this, List.append_assoc]; rfl)
      have hr : m % 8 = 0 ∨ m % 8 = 1 ∨ m % 8 = 2 ∨ m % 8 = 3 ∨ m % 8 = 4 ∨ m % 8 = 5 ∨ m % 8 = 6 ∨ m % 8 = 7 := by omega
      rcases hr with h | h | h | h | h | h | h | h
      all_goals
        rw [show m % 8 = _ from by assumption] at HK
        have hrr : (m : Int) % 8 = _ := congrArg Int.ofNat (show m % 8 = _ from by assumption)
        go_wp2_with fail
        go_roundw
        case rel =>
          refine ⟨m / 8, _ :: l, by omega, by go_num, ?_, hb.alloc hsz _, .inr ⟨by simp, HK.out⟩⟩
          first | rfl | (rw [bcat]; rfl)
        case measure =>
          rw [muS_pos _ (by rw [ByteArray.size_append]; first | (show ¬ (1 + _) = 0; omega) | (simp; omega))]
          simp [intOf]; omega
    · have hn0 : n = 0 := by
        rcases HC.out with ⟨_, h⟩ | ⟨h, _⟩
        · exact h.symm
        · exact absurd rfl h
      have HK : Hid (digsB 8 (by omega) n = digR 8 (by omega) 0 ++ [48]) := Lib.hid (by rw [hn0]; exact digs_step 8 (by omega) 0)
      go_wp2_with fail
      go_roundw
      case rel => exact ⟨0, [48], by omega, by simp, by rfl, hb.alloc hsz _, .inr ⟨by simp, HK.out⟩⟩
      case measure =>
        rw [muS_pos _ (by decide), show muS (.string ⟨#[]⟩) = 1 from rfl]
        simp [intOf]
    · have HT : Hid (digsB 8 (by omega) n = l) := Lib.hid (by
        rcases HC.out with ⟨h, _⟩ | ⟨_, h⟩
        · exact absurd h h1
        · rw [h]; rfl)
      have he : l.isEmpty = false := by
        cases l with
        | nil => exact absurd rfl h1
        | cons a r => rfl
      go_wp2_with fail
      go_ret
      exact ⟨ret_str (by rw [HT.out]), hb⟩
theorem zdigs_10 (n : Nat) (hn : n ≤ 65535) (w : World) :
    Calls Tryd.prog 15 #[.int .i64 n, .int .i64 10] w fun e w' => e = .returned (.string ⟨(digsB 10 (by omega) n).toArray⟩) ∧ Below w.heap.size w w' := by
  have conv := conv1
  go_enter Tryd.func15, Tryd.ntmps15
  go_wp2_with fail
  go_loopw [0, 5] (fun n' t wr => ∃ (m : Nat) (l : List UInt8), m ≤ 65535 ∧ n' = .int .i64 m ∧ t = .string ⟨l.toArray⟩ ∧ Below w.heap.size w wr ∧ ((l = [] ∧ m = n) ∨ (l ≠ [] ∧ digsB 10 (by omega) n = digR 10 (by omega) m ++ l)))
    (fun n' t _ => (intOf n').toNat + muS t)
  case atStart => exact ⟨n, [], hn, rfl, rfl, Below.refl _ _, .inl ⟨rfl, rfl⟩⟩
  case round =>
    obtain ⟨m, l, hm, rfl, rfl, hb, hc⟩ := hrel
    have HC := Lib.hid hc
    have hll : l.length ≤ 18 := by
      have ho := digs_short 10 (by omega) 4 n (by omega)
      rcases hc with ⟨rfl, _⟩ | ⟨_, h⟩
      · simp
      · have := congrArg List.length h
        rw [List.length_append] at this
        omega
    clear hc
    have hsz := hb.size
    have hgo : 0 < m ∨ (m = 0 ∧ l = []) ∨ (m = 0 ∧ l ≠ []) := by
      by_cases h0 : 0 < m
      · exact .inl h0
      · by_cases h1 : l = []
        · exact .inr (.inl ⟨by omega, h1⟩)
        · exact .inr (.inr ⟨by omega, h1⟩)
    rcases hgo with h0 | ⟨rfl, rfl⟩ | ⟨rfl, h1⟩
    · have HK : Hid (digsB 10 (by omega) n = digR 10 (by omega) (m / 10) ++ (hexC (m % 10) :: l)) := Lib.hid (by
        rcases HC.out with ⟨rfl, rfl⟩ | ⟨_, h⟩
        · exact digs_step 10 (by omega) m
        · rw [h]
          unfold digR
          rw [if_neg (by omega)]
          have := digs_step 10 (by omega) m
          unfold digR at this
          rw [this, List.append_assoc]; rfl)
      have hr : m % 10 = 0 ∨ m % 10 = 1 ∨ m % 10 = 2 ∨ m % 10 = 3 ∨ m % 10 = 4 ∨ m % 10 = 5 ∨ m % 10 = 6 ∨ m % 10 = 7 ∨ m % 10 = 8 ∨ m % 10 = 9 := by omega
      rcases hr with h | h | h | h | h | h | h | h | h | h
      all_goals
        rw [show m % 10 = _ from by assumption] at HK
        have hrr : (m : Int) % 10 = _ := congrArg Int.ofNat (show m % 10 = _ from by assumption)
        go_wp2_with fail
        go_roundw
        case rel =>
          refine ⟨m / 10, _ :: l, by omega, by go_num, ?_, hb.alloc hsz _, .inr ⟨by simp, HK.out⟩⟩
          first | rfl | (rw [bcat]; rfl)
        case measure =>
          rw [muS_pos _ (by rw [ByteArray.size_append]; first | (show ¬ (1 + _) = 0; omega) | (simp; omega))]
          simp [intOf]; omega
    · have hn0 : n = 0 := by
        rcases HC.out with ⟨_, h⟩ | ⟨h, _⟩
        · exact h.symm
        · exact absurd rfl h
      have HK : Hid (digsB 10 (by omega) n = digR 10 (by omega) 0 ++ [48]) := Lib.hid (by rw [hn0]; exact digs_step 10 (by omega) 0)
      go_wp2_with fail
      go_roundw
      case rel => exact ⟨0, [48], by omega, by simp, by rfl, hb.alloc hsz _, .inr ⟨by simp, HK.out⟩⟩
      case measure =>
        rw [muS_pos _ (by decide), show muS (.string ⟨#[]⟩) = 1 from rfl]
        simp [intOf]
    · have HT : Hid (digsB 10 (by omega) n = l) := Lib.hid (by
        rcases HC.out with ⟨h, _⟩ | ⟨_, h⟩
        · exact absurd h h1
        · rw [h]; rfl)
      have he : l.isEmpty = false := by
        cases l with
        | nil => exact absurd rfl h1
        | cons a r => rfl
      go_wp2_with fail
      go_ret
      exact ⟨ret_str (by rw [HT.out]), hb⟩
theorem zdigs_16 (n : Nat) (hn : n ≤ 65535) (w : World) :
    Calls Tryd.prog 15 #[.int .i64 n, .int .i64 16] w fun e w' => e = .returned (.string ⟨(digsB 16 (by omega) n).toArray⟩) ∧ Below w.heap.size w w' := by
  have conv := conv1
  go_enter Tryd.func15, Tryd.ntmps15
  go_wp2_with fail
  go_loopw [0, 5] (fun n' t wr => ∃ (m : Nat) (l : List UInt8), m ≤ 65535 ∧ n' = .int .i64 m ∧ t = .string ⟨l.toArray⟩ ∧ Below w.heap.size w wr ∧ ((l = [] ∧ m = n) ∨ (l ≠ [] ∧ digsB 16 (by omega) n = digR 16 (by omega) m ++ l)))
    (fun n' t _ => (intOf n').toNat + muS t)
  case atStart => exact ⟨n, [], hn, rfl, rfl, Below.refl _ _, .inl ⟨rfl, rfl⟩⟩
  case round =>
    obtain ⟨m, l, hm, rfl, rfl, hb, hc⟩ := hrel
    have HC := Lib.hid hc
    have hll : l.length ≤ 18 := by
      have ho := digs_short 16 (by omega) 3 n (by omega)
      rcases hc with ⟨rfl, _⟩ | ⟨_, h⟩
      · simp
      · have := congrArg List.length h
        rw [List.length_append] at this
        omega
    clear hc
    have hsz := hb.size
    have hgo : 0 < m ∨ (m = 0 ∧ l = []) ∨ (m = 0 ∧ l ≠ []) := by
      by_cases h0 : 0 < m
      · exact .inl h0
      · by_cases h1 : l = []
        · exact .inr (.inl ⟨by omega, h1⟩)
        · exact .inr (.inr ⟨by omega, h1⟩)
    rcases hgo with h0 | ⟨rfl, rfl⟩ | ⟨rfl, h1⟩
    · have HK : Hid (digsB 16 (by omega) n = digR 16 (by omega) (m / 16) ++ (hexC (m % 16) :: l)) := Lib.hid (by
        rcases HC.out with ⟨rfl, rfl⟩ | ⟨_, h⟩
        · exact digs_step 16 (by omega) m
        · rw [h]
          unfold digR
          rw [if_neg (by omega)]
          have := digs_step 16 (by omega) m
          unfold digR at this
          rw [this, List.append_assoc]; rfl)
      have hr : m % 16 = 0 ∨ m % 16 = 1 ∨ m % 16 = 2 ∨ m % 16 = 3 ∨ m % 16 = 4 ∨ m % 16 = 5 ∨ m % 16 = 6 ∨ m % 16 = 7 ∨ m % 16 = 8 ∨ m % 16 = 9 ∨ m % 16 = 10 ∨ m % 16 = 11 ∨ m % 16 = 12 ∨ m % 16 = 13 ∨ m % 16 = 14 ∨ m % 16 = 15 := by omega
      rcases hr with h | h | h | h | h | h | h | h | h | h | h | h | h | h | h | h
      all_goals
        rw [show m % 16 = _ from by assumption] at HK
        have hrr : (m : Int) % 16 = _ := congrArg Int.ofNat (show m % 16 = _ from by assumption)
        go_wp2_with fail
        go_roundw
        case rel =>
          refine ⟨m / 16, _ :: l, by omega, by go_num, ?_, hb.alloc hsz _, .inr ⟨by simp, HK.out⟩⟩
          first | rfl | (rw [bcat]; rfl)
        case measure =>
          rw [muS_pos _ (by rw [ByteArray.size_append]; first | (show ¬ (1 + _) = 0; omega) | (simp; omega))]
          simp [intOf]; omega
    · have hn0 : n = 0 := by
        rcases HC.out with ⟨_, h⟩ | ⟨h, _⟩
        · exact h.symm
        · exact absurd rfl h
      have HK : Hid (digsB 16 (by omega) n = digR 16 (by omega) 0 ++ [48]) := Lib.hid (by rw [hn0]; exact digs_step 16 (by omega) 0)
      go_wp2_with fail
      go_roundw
      case rel => exact ⟨0, [48], by omega, by simp, by rfl, hb.alloc hsz _, .inr ⟨by simp, HK.out⟩⟩
      case measure =>
        rw [muS_pos _ (by decide), show muS (.string ⟨#[]⟩) = 1 from rfl]
        simp [intOf]
    · have HT : Hid (digsB 16 (by omega) n = l) := Lib.hid (by
        rcases HC.out with ⟨h, _⟩ | ⟨_, h⟩
        · exact absurd h h1
        · rw [h]; rfl)
      have he : l.isEmpty = false := by
        cases l with
        | nil => exact absurd rfl h1
        | cons a r => rfl
      go_wp2_with fail
      go_ret
      exact ⟨ret_str (by rw [HT.out]), hb⟩
end Go.Proofs.YtkeomcdcjfgacaaDoor
