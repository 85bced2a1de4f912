/- The document's answers of layer 4, walked: octal, Text. -/
import Derived.Test.YtliebhpddjbjeaaGreatDoorLyN
import Derived.Test.YtliebhpddjbjeaaGreatDoorPlD
namespace Go.Proofs.YtliebhpddjbjeaaGreatDoor
open Go.RowKit
set_option maxHeartbeats 1000000
set_option maxRecDepth 100000
set_option linter.unusedVariables false

def muS (v : Value) : Nat := match lenOf v with | 0 => 1 | _ + 1 => 0
theorem muS_pos (s : ByteArray) (h : s.size ≠ 0) : muS (.string s) = 0 := by
  show (match s.size with | 0 => 1 | _ + 1 => 0) = 0
  cases hq : s.size with
  | zero => exact absurd hq h
  | succ k => rfl
def octR (m : Nat) : List UInt8 := if m = 0 then [] else octD m
theorem oct_step (m : Nat) (h : 0 < m ∨ m = 0) : octD m = octR (m / 8) ++ [UInt8.ofNat (48 + m % 8)] := by
  unfold octR
  rw [octD]
  by_cases h8 : m < 8
  · rw [dif_pos h8, if_pos (by omega), show m % 8 = m by omega]; rfl
  · rw [dif_neg h8, if_neg (by omega)]
theorem octal_any (n : Nat) (hn : n ≤ 65535) (w : World) :
    Calls Tryz.prog 79 #[.int .i64 n] w fun e w' => e = .returned (.string ⟨(octD n).toArray⟩) ∧ Below w.heap.size w w' := by
  have conv := conv1
  go_enter Tryz.func79, Tryz.ntmps79
  go_wp2_with fail
  go_loopw [0, 3] (fun n' t wr => ∃ (m : Nat) (l : List UInt8), m ≤ 65535 ∧ n' = .int .i64 m ∧ t = .string ⟨l.toArray⟩ ∧ Below w.heap.size w wr ∧ ((l = [] ∧ m = n) ∨ (l ≠ [] ∧ octD n = octR m ++ l)))
    (fun n' t _ => (intOf n').toNat + muS t)
  case atStart => exact ⟨n, [], hn, rfl, rfl, Below.refl _ _, .inl ⟨rfl, rfl⟩⟩
  case round =>
    obtain ⟨m, l, hm, rfl, rfl, hb, hc⟩ := hrel
    have HC := Lib.hid hc
    have hll : l.length ≤ 18 := by
      have ho := oct_short8 17 n (by omega)
      rcases hc with ⟨rfl, _⟩ | ⟨_, h⟩
      · simp
      · have := congrArg List.length h
        rw [List.length_append] at this
        omega
    clear hc
    have hsz := hb.size
    have hgo : 0 < m ∨ (m = 0 ∧ l = []) ∨ (m = 0 ∧ l ≠ []) := by
      by_cases h0 : 0 < m
      · exact .inl h0
      · by_cases h1 : l = []
        · exact .inr (.inl ⟨by omega, h1⟩)
        · exact .inr (.inr ⟨by omega, h1⟩)
    rcases hgo with h0 | ⟨rfl, rfl⟩ | ⟨rfl, h1⟩
    · have HK : Hid (octD n = octR (m / 8) ++ (UInt8.ofNat (48 + m % 8) :: l)) := Lib.hid (by
        rcases HC.out with ⟨rfl, rfl⟩ | ⟨_, h⟩
        · exact oct_step m (.inl h0)
        · rw [h]
          unfold octR
          rw [if_neg (by omega)]
          rw [oct_step m (.inl h0), List.append_assoc]; rfl)
      go_wp2_with fail
      go_roundw
      case rel =>
        refine ⟨m / 8, UInt8.ofNat (48 + m % 8) :: l, by omega, by go_num, ?_, hb.alloc hsz _, .inr ⟨by simp, HK.out⟩⟩
        rw [dig_add, bcat]
      case measure =>
        rw [muS_pos _ (by rw [ByteArray.size_append]; have : (⟨#[48 + UInt8.ofNat (m % 8)]⟩ : ByteArray).size = 1 := rfl; omega)]
        simp [intOf]; omega
    · have hn0 : n = 0 := by
        rcases HC.out with ⟨_, h⟩ | ⟨h, _⟩
        · exact h.symm
        · exact absurd rfl h
      have HK : Hid (octD n = octR 0 ++ [UInt8.ofNat 48]) := Lib.hid (by rw [hn0]; exact oct_step 0 (.inr rfl))
      go_wp2_with fail
      go_roundw
      case rel => exact ⟨0, [UInt8.ofNat 48], by omega, by simp, by rfl, hb.alloc hsz _, .inr ⟨by simp, HK.out⟩⟩
      case measure =>
        rw [muS_pos _ (by decide), show muS (.string ⟨#[]⟩) = 1 from rfl]
        simp [intOf]
    · have HT : Hid (octD n = l) := Lib.hid (by
        rcases HC.out with ⟨h, _⟩ | ⟨_, h⟩
        · exact absurd h h1
        · rw [h]; rfl)
      have he : l.isEmpty = false := by
        cases l with
        | nil => exact absurd rfl h1
        | cons a r => rfl
      go_wp2_with fail
      go_ret
      exact ⟨ret_str (by rw [HT.out]), hb⟩
end Go.Proofs.YtliebhpddjbjeaaGreatDoor
