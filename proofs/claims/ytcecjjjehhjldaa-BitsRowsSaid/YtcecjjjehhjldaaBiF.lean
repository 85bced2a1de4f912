/- BitsRows, walked. -/
import Derived.Test.YtcecjjjehhjldaaBiE
namespace Go.Proofs.Ytcecjjjehhjldaa
open Go.RowKit
set_option maxHeartbeats 400000
set_option maxRecDepth 100000
set_option linter.unusedVariables false

theorem row_toNat (low high : Int) (n : Nat) : (rowI low high n).toNat = setOf (inRow low high) n := Int.toNat_natCast _
theorem has_row (low high i : Int) : hasI (rowI low high 16) i = (decide (0 ≤ i) && decide (i < 16) && decide (low ≤ i) && decide (i ≤ high)) := by
  by_cases hi : 0 ≤ i ∧ i < 16
  · obtain ⟨k, rfl⟩ := Int.eq_ofNat_of_zero_le hi.1
    rw [has_bit _ k (by omega), row_toNat, setOf_bit]
    unfold inRow
    simp [show k < 16 by omega, show (k : Int) < 16 by omega]
  · rw [has_out _ _ (by omega)]
    by_cases h0 : 0 ≤ i
    · simp [show ¬ i < 16 by omega]
    · simp [h0]
theorem rRow_any' (low high : Int) (l0 : -9223372036854775808 ≤ low) (l1 : low ≤ 9223372036854775807) (h0 : -9223372036854775808 ≤ high) (h1 : high ≤ 9223372036854775807) (w : World) :
    Calls Try.prog 21 #[.int .i64 low, .int .i64 high] w fun e w' => e = .returned (.int .u16 (rowI low high 16)) ∧ w = w' := rRow_any low high l0 l1 h0 h1 w

theorem rows_end (low high i : Int) (l0 : -9223372036854775808 ≤ low) (l1 : low ≤ 9223372036854775807) (h0 : -9223372036854775808 ≤ high) (h1 : high ≤ 9223372036854775807)
    (i0 : -9223372036854775808 ≤ i) (i1 : i ≤ 9223372036854775807) (w : World) :
    Calls Try.prog 4 #[.int .i64 low, .int .i64 high, .int .i64 i] w fun e w' => e = .returned (.bool true) ∧ Below w.heap.size w w' := by
  have HH := Lib.hid (has_row low high i)
  obtain ⟨r0, r1⟩ := rowI_bd low high 16 (by omega)
  have HR := Lib.hid (rRow_any' low high l0 l1 h0 h1 w)
  have HR2 := Lib.hid (Row_any low high l0 l1 h0 h1 w)
  obtain ⟨r, hr⟩ : ∃ r, rowI low high 16 = r := ⟨_, rfl⟩
  rw [hr] at HH HR HR2 r0 r1
  clear hr
  have HA := Lib.hid (Has_any r i r0 r1 i0 i1 w)
  obtain ⟨b, hb⟩ : ∃ b, hasI r i = b := ⟨_, rfl⟩
  rw [hb] at HA HH
  clear hb
  have hc : ¬ 0 ≤ i ∨ (0 ≤ i ∧ ¬ i < 16) ∨ (0 ≤ i ∧ i < 16 ∧ ¬ low ≤ i) ∨ (0 ≤ i ∧ i < 16 ∧ low ≤ i ∧ ¬ i ≤ high) ∨ (0 ≤ i ∧ i < 16 ∧ low ≤ i ∧ i ≤ high) := by omega
  rcases hc with g0 | ⟨g0, g1⟩ | ⟨g0, g1, g2⟩ | ⟨g0, g1, g2, g3⟩ | ⟨g0, g1, g2, g3⟩
  all_goals
    obtain rfl : b = _ := HH.out.trans (by simp [*]; rfl)
    clear HH
    go_enter Try.func4, Try.ntmps4
    go_wp2_with fail
    refine HR2.out.mono ?_
    rintro e w' ⟨rfl, rfl⟩
    go_wp2_with fail
    refine HR.out.mono ?_
    rintro e w' ⟨rfl, rfl⟩
    go_wp2_with fail
    refine HA.out.mono ?_
    rintro e w' ⟨rfl, rfl⟩
    go_wp2_with fail
    refine (alive_any _).mono ?_
    rintro e w' ⟨rfl, hb⟩
    go_wp2_with fail
    go_ret
    first | exact ⟨rfl, hb⟩ | exact ⟨by simp [g3], hb⟩
end Go.Proofs.Ytcecjjjehhjldaa
