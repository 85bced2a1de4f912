/- Package bits, walked: Has, With, Without, Part, Row, Len. -/
import Derived.Test.YtcecjjjehhjldaaBiA
namespace Go.Proofs.Ytcecjjjehhjldaa
open Go.RowKit
set_option maxHeartbeats 400000
set_option maxRecDepth 100000
set_option linter.unusedVariables false

def orI (a b : Int) : Int := ((a.toNat ||| b.toNat : Nat) : Int)
def lessI (a b : Int) : Int := (lessN a.toNat b.toNat : Nat)
def hasI (s i : Int) : Bool := hasN s.toNat i
def partI (s t : Int) : Bool := partN s.toNat t.toNat
def rowI (low high : Int) (n : Nat) : Int := (setOf (inRow low high) n : Nat)
def lenI (s : Int) (n : Nat) : Int := (elems s.toNat n).length
theorem orI_bd (a b : Int) (a0 : 0 ≤ a) (a1 : a ≤ 65535) (b0 : 0 ≤ b) (b1 : b ≤ 65535) : 0 ≤ orI a b ∧ orI a b ≤ 65535 := by
  have := or16 a.toNat b.toNat (by omega) (by omega)
  unfold orI; omega
theorem lessI_bd (a b : Int) (a0 : 0 ≤ a) (a1 : a ≤ 65535) : 0 ≤ lessI a b ∧ lessI a b ≤ 65535 := by
  have := lessN_lt a.toNat b.toNat (by omega)
  unfold lessI; omega
theorem rowI_bd (low high : Int) (n : Nat) (hn : n ≤ 16) : 0 ≤ rowI low high n ∧ rowI low high n ≤ 65535 := by
  have := setOf_lt16 (inRow low high) n hn
  unfold rowI; omega
theorem bits_or (a b : Int) (a0 : 0 ≤ a) (a1 : a ≤ 65535) (b0 : 0 ≤ b) (b1 : b ≤ 65535) : bits .or .u16 a b = orI a b :=
  u16_or a b a0 (by omega) b0 (by omega)
theorem bits_less (a b : Int) (a0 : 0 ≤ a) (a1 : a ≤ 65535) (b0 : 0 ≤ b) (b1 : b ≤ 65535) : bits .andNot .u16 a b = lessI a b :=
  u16_andNot a b a0 (by omega) b0 (by omega)
theorem bits_has (s i : Int) (s0 : 0 ≤ s) (s1 : s ≤ 65535) : (bits .and .u16 s (oneI i) != 0) = hasI s i := by
  have ho := oneI_bd i
  rw [u16_and s (oneI i) s0 (by omega) ho.1 (by omega), show (oneI i).toNat = oneN i from Int.toNat_natCast _]
  have h := has_and s.toNat (by omega) i
  unfold hasI
  rw [bne, eq0_nat, h, Bool.not_not]

theorem With_any (s : Int) (s0 : 0 ≤ s) (s1 : s ≤ 65535) (ao : Option Addr) (cap : Nat) (l : List Int) (hl : l.length ≤ 140737488355328) (w : World) (hin : IntsIn w ao l) (hok : IntsOk l) :
    Calls Try.prog 10 #[.int .u16 s, .slice ao l.length cap] w fun e w' => e = .returned (.int .u16 (orI s (uniI l))) ∧ w = w' := by
  have hb := uniI_bd l
  have HS := Lib.hid (bits_or s (uniI l) s0 s1 hb.1 hb.2)
  clear hb
  go_enter Try.func10, Try.ntmps10
  go_wp2_with fail
  refine (union_any ao cap l hl _ hin hok).mono ?_
  rintro e w' ⟨rfl, rfl⟩
  go_wp2
  go_ret
  exact ⟨by rw [← HS.out]; rfl, rfl⟩

theorem Without_any (s : Int) (s0 : 0 ≤ s) (s1 : s ≤ 65535) (ao : Option Addr) (cap : Nat) (l : List Int) (hl : l.length ≤ 140737488355328) (w : World) (hin : IntsIn w ao l) (hok : IntsOk l) :
    Calls Try.prog 12 #[.int .u16 s, .slice ao l.length cap] w fun e w' => e = .returned (.int .u16 (lessI s (uniI l))) ∧ w = w' := by
  have hb := uniI_bd l
  have HS := Lib.hid (bits_less s (uniI l) s0 s1 hb.1 hb.2)
  clear hb
  go_enter Try.func12, Try.ntmps12
  go_wp2_with fail
  refine (union_any ao cap l hl _ hin hok).mono ?_
  rintro e w' ⟨rfl, rfl⟩
  go_wp2
  go_ret
  exact ⟨by rw [← HS.out]; rfl, rfl⟩

theorem Has_any (s i : Int) (s0 : 0 ≤ s) (s1 : s ≤ 65535) (h0 : -9223372036854775808 ≤ i) (h1 : i ≤ 9223372036854775807) (w : World) :
    Calls Try.prog 8 #[.int .u16 s, .int .i64 i] w fun e w' => e = .returned (.bool (hasI s i)) ∧ w = w' := by
  have HS := Lib.hid (bits_has s i s0 s1)
  go_enter Try.func8, Try.ntmps8
  go_wp2_with fail
  refine (one_any i h0 h1 _).mono ?_
  rintro e w' ⟨rfl, rfl⟩
  go_wp2
  go_ret
  exact ⟨by rw [← HS.out]; rfl, rfl⟩

theorem bits_part (s t : Int) (s0 : 0 ≤ s) (s1 : s ≤ 65535) (t0 : 0 ≤ t) (t1 : t ≤ 65535) : (bits .andNot .u16 s t == 0) = partI s t := by
  rw [bits_less s t s0 s1 t0 t1]
  unfold lessI partI partN
  exact eq0_nat _

theorem Part_any (s t : Int) (s0 : 0 ≤ s) (s1 : s ≤ 65535) (t0 : 0 ≤ t) (t1 : t ≤ 65535) (w : World) :
    Calls Try.prog 18 #[.int .u16 s, .int .u16 t] w fun e w' => e = .returned (.bool (partI s t)) ∧ w = w' := by
  have HS := Lib.hid (bits_part s t s0 s1 t0 t1)
  go_enter Try.func18, Try.ntmps18
  go_wp2
  go_ret
  exact ⟨by rw [← HS.out]; rfl, rfl⟩

theorem row_hit (low high : Int) (k : Nat) (hk : k < 16) (h1 : low ≤ (k : Int)) (h2 : (k : Int) ≤ high) : bits .or .u16 (rowI low high k) (oneI (k : Int)) = rowI low high (k + 1) := by
  unfold rowI oneI
  rw [u16_or_nat _ _ (setOf_lt16 _ _ (by omega)) (oneN_lt _), or_one _ _ hk (by unfold inRow; simp [h1, h2])]
theorem row_miss (low high : Int) (k : Nat) (h : ¬ (low ≤ (k : Int) ∧ (k : Int) ≤ high)) : rowI low high (k + 1) = rowI low high k := by
  unfold rowI
  rw [setOf_miss]
  unfold inRow
  by_cases h1 : low ≤ (k : Int)
  · have : ¬ (k : Int) ≤ high := fun h2 => h ⟨h1, h2⟩
    simp [this]
  · simp [h1]

theorem Row_any (low high : Int) (l0 : -9223372036854775808 ≤ low) (l1 : low ≤ 9223372036854775807) (h0 : -9223372036854775808 ≤ high) (h1 : high ≤ 9223372036854775807) (w : World) :
    Calls Try.prog 20 #[.int .i64 low, .int .i64 high] w fun e w' => e = .returned (.int .u16 (rowI low high 16)) ∧ w = w' := by
  go_enter Try.func20, Try.ntmps20
  go_wp2
  go_loop [5, 7] (fun s i => ∃ k : Nat, k ≤ 16 ∧ i = .int .i64 k ∧ s = .int .u16 (rowI low high k))
    (fun _ i => 16 - (intOf i).toNat)
  case atStart => exact ⟨0, Nat.zero_le _, rfl, rfl⟩
  case round =>
    obtain ⟨k, hk, rfl, rfl⟩ := hrel
    have hc : k = 16 ∨ (k < 16 ∧ ((low ≤ (k : Int) ∧ (k : Int) ≤ high) ∨ (low ≤ (k : Int) ∧ ¬ (k : Int) ≤ high) ∨ ¬ low ≤ (k : Int))) := by omega
    rcases hc with rfl | ⟨hlt, ⟨g0, g1⟩ | ⟨g0, g1⟩ | g0⟩
    · go_wp2
      go_ret
      exact ⟨rfl, rfl⟩
    · have HS := Lib.hid (row_hit low high k hlt g0 g1)
      go_wp2_with fail
      refine (one_any (k : Int) (by omega) (by omega) _).mono ?_
      rintro e w' ⟨rfl, rfl⟩
      go_wp2
      go_round
      case rel => exact ⟨k + 1, by omega, by simp, by rw [HS.out]⟩
      case measure => simp [intOf]; omega
    · have HS := Lib.hid (row_miss low high k (by omega))
      go_wp2
      go_round
      case rel => exact ⟨k + 1, by omega, by simp, by rw [HS.out]⟩
      case measure => simp [intOf]; omega
    · have HS := Lib.hid (row_miss low high k (by omega))
      go_wp2
      go_round
      case rel => exact ⟨k + 1, by omega, by simp, by rw [HS.out]⟩
      case measure => simp [intOf]; omega

theorem has_bit (s : Int) (k : Nat) (hk : k < 16) : hasI s (k : Int) = s.toNat.testBit k := hasN_nat _ _ hk
theorem lenI_bd (s : Int) (n : Nat) : 0 ≤ lenI s n ∧ lenI s n ≤ n := by
  have := elems_len s.toNat n
  unfold lenI; omega
theorem len_hit (s : Int) (k : Nat) (hk : k < 16) (h : hasI s (k : Int) = true) : lenI s k + 1 = lenI s (k + 1) := by
  rw [has_bit s k hk] at h
  unfold lenI
  rw [show elems s.toNat (k + 1) = elems s.toNat k ++ (if s.toNat.testBit k then [(k : Int)] else []) from rfl, if_pos h]
  simp
theorem len_miss (s : Int) (k : Nat) (hk : k < 16) (h : hasI s (k : Int) = false) : lenI s k = lenI s (k + 1) := by
  rw [has_bit s k hk] at h
  unfold lenI
  rw [show elems s.toNat (k + 1) = elems s.toNat k ++ (if s.toNat.testBit k then [(k : Int)] else []) from rfl, h]
  simp

theorem Len_any (s : Int) (s0 : 0 ≤ s) (s1 : s ≤ 65535) (w : World) :
    Calls Try.prog 14 #[.int .u16 s] w fun e w' => e = .returned (.int .i64 (lenI s 16)) ∧ w = w' := by
  go_enter Try.func14, Try.ntmps14
  go_wp2
  go_loop [3, 5] (fun n i => ∃ k : Nat, k ≤ 16 ∧ i = .int .i64 k ∧ n = .int .i64 (lenI s k))
    (fun _ i => 16 - (intOf i).toNat)
  case atStart => exact ⟨0, Nat.zero_le _, rfl, rfl⟩
  case round =>
    obtain ⟨k, hk, rfl, rfl⟩ := hrel
    have hc : k = 16 ∨ k < 16 := by omega
    rcases hc with rfl | hlt
    · go_wp2
      go_ret
      exact ⟨rfl, rfl⟩
    · obtain ⟨n0, n1⟩ := lenI_bd s k
      go_wp2_with fail
      refine (Has_any s (k : Int) s0 s1 (by omega) (by omega) _).mono ?_
      rintro e w' ⟨rfl, rfl⟩
      cases hb : hasI s (k : Int)
      · have HS := Lib.hid (len_miss s k hlt hb)
        go_wp2
        go_round
        case rel => exact ⟨k + 1, by omega, by simp, by rw [← HS.out]⟩
        case measure => simp [intOf]; omega
      · have HS := Lib.hid (len_hit s k hlt hb)
        go_wp2
        go_round
        case rel => exact ⟨k + 1, by omega, by simp, by rw [← HS.out]⟩
        case measure => simp [intOf]; omega
end Go.Proofs.Ytcecjjjehhjldaa
