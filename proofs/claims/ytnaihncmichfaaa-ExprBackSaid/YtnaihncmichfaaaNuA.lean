/- The document's Number of layer 5, walked: of a number that is not below 0. -/
import Derived.Test.YtnaihncmichfaaaMeH
import Derived.Test.YtnaihncmichfaaaPlD
namespace Go.Proofs.Ytnaihncmichfaaa
open Go.RowKit
set_option maxHeartbeats 4000000
set_option maxRecDepth 100000
set_option linter.unusedVariables false
set_option linter.unusedSimpArgs false

theorem dgs_len2 (m : Nat) (h : m ≤ 9223372036854775808) : (dgs m).length ≤ 19 := by
  unfold dgs
  split
  · simp
  · exact dec_len 18 m (by omega)
theorem Number_pos (n : Nat) (hn0 : 0 < n) (hn : n ≤ 9223372036854775807) (w : World) :
    Calls Try.prog 27 #[.int .i64 n] w fun e w' => e = .returned (.string ⟨(dgs n).toArray⟩) ∧ Below w.heap.size w w' := by
  have conv := conv1
  have hg : ¬ ((n : Int) < 0) := by omega
  have hz : ¬ ((n : Int) = 0) := by omega
  go_enter Try.func27, Try.ntmps27
  go_wp2_with fail
  go_loopw [0, 3] (fun n' t wr => ∃ (m : Nat) (l : List UInt8), m ≤ 9223372036854775807 ∧ dgs n = dgs m ++ l ∧ n' = .int .i64 m ∧ t = .string ⟨l.toArray⟩ ∧ Below w.heap.size w wr) (fun n' _ _ => (intOf n').toNat)
  case atStart => exact ⟨n, [], hn, by simp, rfl, rfl, Below.refl _ _⟩
  case round =>
    obtain ⟨m, l, hm, hl, rfl, rfl, hb⟩ := hrel
    have hll : l.length ≤ 19 := by
      have h1 := congrArg List.length hl
      have h2 := dgs_len2 n (by omega)
      rw [List.length_append] at h1
      omega
    have HL := Lib.hid hl
    clear hl
    have hsz := hb.size
    by_cases h0 : 0 < m
    · have hm0 : ¬ ((m : Int) = 0) := by omega
      go_wp2_with fail
      go_roundw
      case rel =>
        refine ⟨m / 10, UInt8.ofNat (48 + m % 10) :: l, by omega, ?_, by go_num, ?_, hb.alloc hsz _⟩
        · rw [HL.out, dgs_step m h0, List.append_assoc]; rfl
        · rw [dig_add, bcat]
      case measure => simp [intOf]; omega
    · obtain rfl : m = 0 := by omega
      have HT : Hid (l = dgs n) := Lib.hid (by rw [HL.out]; rfl)
      go_wp2_with fail
      go_ret
      exact ⟨ret_str (by rw [HT.out]), hb⟩
theorem Number_nat (n : Nat) (h : n ≤ 9223372036854775807) (w : World) :
    Calls Try.prog 27 #[.int .i64 n] w fun e w' => e = .returned (.string ⟨(Lib.decDigits n).toArray⟩) ∧ Below w.heap.size w w' := by
  by_cases hz : n = 0
  · subst hz
    have e : Lib.decDigits 0 = [48] := by
      rw [Lib.decDigits, dif_pos (by decide)]
      rfl
    rw [e]
    simp only [Int.natCast_zero]
    go_enter Try.func27, Try.ntmps27
    go_wp2_with fail
    go_ret
    exact ⟨rfl, Below.refl _ _⟩
  · have h1 := Number_pos n (by omega) h w
    have e : dgs n = Lib.decDigits n := by unfold dgs; rw [if_neg hz]
    rw [e] at h1
    exact h1
end Go.Proofs.Ytnaihncmichfaaa
