/- The document's answers of layer 2, walked: power, Has, in, With, Without, Row, Part. -/
import Derived.Test.YtcecjjjehhjldaaBiB
namespace Go.Proofs.Ytcecjjjehhjldaa
open Go.RowKit
set_option maxHeartbeats 400000
set_option maxRecDepth 100000
set_option linter.unusedVariables false

def powI (k : Nat) : Int := ((2 ^ k : Nat) : Int)
theorem powI_bd (k : Nat) (hk : k ≤ 15) : 1 ≤ powI k ∧ powI k ≤ 32768 := by
  have h1 : 2 ^ k ≤ 2 ^ 15 := Nat.pow_le_pow_right (by omega) hk
  have h2 : 0 < 2 ^ k := Nat.two_pow_pos k
  unfold powI; omega
theorem powI_succ (k : Nat) : 2 * powI k = powI (k + 1) := by
  unfold powI; rw [Nat.pow_succ]; omega

theorem power_any (n : Nat) (hn : n ≤ 15) (w : World) :
    Calls Try.prog 24 #[.int .i64 n] w fun e w' => e = .returned (.int .u16 (powI n)) ∧ w = w' := by
  go_enter Try.func24, Try.ntmps24
  go_wp2
  go_loop [3, 4] (fun p i => ∃ k : Nat, k ≤ n ∧ i = .int .i64 k ∧ p = .int .u16 (powI k))
    (fun _ i => n - (intOf i).toNat)
  case atStart => exact ⟨0, Nat.zero_le _, rfl, rfl⟩
  case round =>
    obtain ⟨k, hk, rfl, rfl⟩ := hrel
    have hc : k = n ∨ k < n := by omega
    rcases hc with rfl | hlt
    · go_wp2
      go_ret
      exact ⟨rfl, rfl⟩
    · have HS := Lib.hid (powI_succ k)
      obtain ⟨b0, b1⟩ := powI_bd (k + 1) (by omega)
      rw [← powI_succ] at b0 b1
      go_wp2
      go_round
      case rel => exact ⟨k + 1, by omega, by simp, by rw [← HS.out]⟩
      case measure => simp [intOf]; omega

theorem has_quo (s : Int) (k : Nat) (s0 : 0 ≤ s) (hk : k < 16) : (s / powI k % 2 == 1) = hasI s (k : Int) := by
  obtain ⟨S, rfl⟩ := Int.eq_ofNat_of_zero_le s0
  rw [has_bit _ k hk]
  unfold powI
  have h := bit_mod (S : Int) (k : Int) s0 (by omega)
  simp only [Int.toNat_natCast] at h ⊢
  rw [← h]
  simp
theorem has_quo2 (s : Int) (k : Nat) (s0 : 0 ≤ s) (s1 : s ≤ 65535) (hk : k < 16) : ((IntKind.u16.wrap (s.tdiv (powI k))).tmod 2 == 1) = hasI s (k : Int) := by
  obtain ⟨b0, b1⟩ := powI_bd k (by omega)
  rw [← has_quo s k s0 hk]
  generalize powI k = p at *
  have h1 : s.tdiv p = s / p := Int.tdiv_eq_ediv_of_nonneg s0
  have h2 : 0 ≤ s / p := Int.ediv_nonneg s0 (by omega)
  have h3 : s / p ≤ s := Int.ediv_le_self p s0
  rw [h1, IntKind.wrap_u16, Int.emod_eq_of_lt h2 (by omega), Int.tmod_eq_emod_of_nonneg h2]
theorem has_out (s i : Int) (h : i < 0 ∨ 16 ≤ i) : hasI s i = false := by
  unfold hasI hasN
  rcases h with h | h
  · simp [show ¬ 0 ≤ i by omega]
  · simp [show ¬ i < 16 by omega]

theorem rHas_in (s : Int) (s0 : 0 ≤ s) (s1 : s ≤ 65535) (k : Nat) (hk : k < 16) (w : World) :
    Calls Try.prog 9 #[.int .u16 s, .int .i64 k] w fun e w' => e = .returned (.bool (hasI s k)) ∧ w = w' := by
  have HS := Lib.hid (has_quo2 s k s0 s1 hk)
  obtain ⟨b0, b1⟩ := powI_bd k (by omega)
  go_enter Try.func9, Try.ntmps9
  go_wp2_with fail
  refine (power_any k (by omega) _).mono ?_
  rintro e w' ⟨rfl, rfl⟩
  go_wp2
  go_ret
  exact ⟨by rw [← HS.out]; rfl, rfl⟩

theorem rHas_any (s i : Int) (s0 : 0 ≤ s) (s1 : s ≤ 65535) (h0 : -9223372036854775808 ≤ i) (h1 : i ≤ 9223372036854775807) (w : World) :
    Calls Try.prog 9 #[.int .u16 s, .int .i64 i] w fun e w' => e = .returned (.bool (hasI s i)) ∧ w = w' := by
  have hc : i < 0 ∨ 16 ≤ i ∨ (0 ≤ i ∧ i < 16) := by omega
  rcases hc with h | h | ⟨g0, g1⟩
  · have HT := Lib.hid (has_out s i (by omega))
    go_enter Try.func9, Try.ntmps9
    go_wp2
    go_ret
    exact ⟨by rw [HT.out]; rfl, rfl⟩
  · have HT := Lib.hid (has_out s i (by omega))
    go_enter Try.func9, Try.ntmps9
    go_wp2
    go_ret
    exact ⟨by rw [HT.out]; rfl, rfl⟩
  · obtain ⟨k, rfl⟩ := Int.eq_ofNat_of_zero_le g0
    exact rHas_in s s0 s1 k (by omega) w

theorem take_next (l : List Int) (k : Nat) (hk : k < l.length) (n : Int) (h1 : (l.take k).contains n = false) (h2 : (l.getD k 0 == n) = false) : (l.take (k + 1)).contains n = false := by
  rw [show l.getD k 0 = l[k] by simp [List.getD, hk]] at h2
  rw [List.take_succ_eq_append_getElem hk]
  simp only [List.contains_eq_mem, List.mem_append, List.mem_singleton, decide_eq_false_iff_not, beq_eq_false_iff_ne, ne_eq] at h1 h2 ⊢
  rintro (h | h)
  · exact h1 h
  · exact h2 h.symm
theorem take_hit (l : List Int) (k : Nat) (hk : k < l.length) (n : Int) (h2 : (l.getD k 0 == n) = true) : l.contains n = true := by
  rw [show l.getD k 0 = l[k] by simp [List.getD, hk]] at h2
  rw [List.contains_iff_mem]
  have h3 : l[k] = n := by simpa using h2
  rw [← h3]; exact List.getElem_mem hk

/-- Whether n is in l. -/
def inL (l : List Int) (n : Int) : Bool := l.contains n
theorem in_any (ao : Option Addr) (cap : Nat) (l : List Int) (hl : l.length ≤ 140737488355328) (n : Int) (n0 : -9223372036854775808 ≤ n) (n1 : n ≤ 9223372036854775807) (w : World) (hin : IntsIn w ao l) (hok : IntsOk l) :
    Calls Try.prog 26 #[.slice ao l.length cap, .int .i64 n] w fun e w' => e = .returned (.bool (inL l n)) ∧ w = w' := by
  go_enter Try.func26, Try.ntmps26
  go_wp2
  go_loop [5] (fun i => ∃ k : Nat, k ≤ l.length ∧ i = .int .i64 k ∧ (l.take k).contains n = false)
    (fun i => l.length - (intOf i).toNat)
  case atStart => exact ⟨0, Nat.zero_le _, rfl, rfl⟩
  case round =>
    obtain ⟨k, hk, rfl, hnot⟩ := hrel
    have HN := Lib.hid hnot
    clear hnot
    by_cases hlt : k < l.length
    · obtain ⟨a, rfl, hcell⟩ := hin k hlt
      obtain ⟨b0, b1⟩ := hok k hlt
      cases hb : (l.getD k 0 == n)
      · have HT := Lib.hid (take_next l k hlt n HN.out hb)
        generalize l.getD k 0 = x at *
        go_wp2
        go_round
        case rel => exact ⟨k + 1, by omega, by simp, HT.out⟩
        case measure => simp [intOf]; omega
      · have HT := Lib.hid (show inL l n = true from take_hit l k hlt n hb)
        have hb2 : l.getD k 0 = n := by simpa using hb
        rw [hb2] at hcell
        clear hb hb2 b0 b1
        go_wp2
        go_ret
        exact ⟨by rw [HT.out]; rfl, rfl⟩
    · have hkl : k = l.length := by omega
      subst hkl
      have HT : Hid (inL l n = false) := Lib.hid (by have := HN.out; rw [List.take_length] at this; exact this)
      go_wp2
      go_ret
      exact ⟨by rw [HT.out]; rfl, rfl⟩

/-- The set of all k below n that f takes, as a word. -/
def setI (f : Nat → Bool) (n : Nat) : Int := (setOf f n : Nat)
theorem setI_hit (f : Nat → Bool) (k : Nat) (h : f k = true) : setI f k + powI k = setI f (k + 1) := by
  unfold setI powI; rw [setOf_hit f k h]; simp
theorem setI_miss (f : Nat → Bool) (k : Nat) (h : f k = false) : setI f k = setI f (k + 1) := by
  unfold setI; rw [setOf_miss f k h]
theorem setI_bd (f : Nat → Bool) (n : Nat) (hn : n ≤ 16) : 0 ≤ setI f n ∧ setI f n ≤ 65535 := by
  have := setOf_lt16 f n hn
  unfold setI; omega
theorem setI_room (f : Nat → Bool) (k : Nat) (hk : k < 16) : setI f k + powI k ≤ 65535 := by
  have h := setOf_lt f k
  have h2 : 2 ^ k ≤ 2 ^ 15 := Nat.pow_le_pow_right (by omega) (by omega)
  unfold setI powI; omega

theorem rRow_any (low high : Int) (l0 : -9223372036854775808 ≤ low) (l1 : low ≤ 9223372036854775807) (h0 : -9223372036854775808 ≤ high) (h1 : high ≤ 9223372036854775807) (w : World) :
    Calls Try.prog 21 #[.int .i64 low, .int .i64 high] w fun e w' => e = .returned (.int .u16 (setI (inRow low high) 16)) ∧ w = w' := by
  go_enter Try.func21, Try.ntmps21
  go_wp2
  go_loop [5, 6] (fun s i => ∃ k : Nat, k ≤ 16 ∧ i = .int .i64 k ∧ s = .int .u16 (setI (inRow low high) k))
    (fun _ i => 16 - (intOf i).toNat)
  case atStart => exact ⟨0, Nat.zero_le _, rfl, rfl⟩
  case round =>
    obtain ⟨k, hk, rfl, rfl⟩ := hrel
    have hc : k = 16 ∨ (k < 16 ∧ ((low ≤ (k : Int) ∧ (k : Int) ≤ high) ∨ (low ≤ (k : Int) ∧ ¬ (k : Int) ≤ high) ∨ ¬ low ≤ (k : Int))) := by omega
    rcases hc with rfl | ⟨hlt, ⟨g0, g1⟩ | ⟨g0, g1⟩ | g0⟩
    · go_wp2
      go_ret
      exact ⟨rfl, rfl⟩
    · have HS := Lib.hid (setI_hit (inRow low high) k (by unfold inRow; simp [g0, g1]))
      obtain ⟨b0, b1⟩ := setI_bd (inRow low high) k (by omega)
      have b2 := setI_room (inRow low high) k hlt
      obtain ⟨b3, b4⟩ := powI_bd k (by omega)
      go_wp2_with fail
      refine (power_any k (by omega) _).mono ?_
      rintro e w' ⟨rfl, rfl⟩
      go_wp2
      go_round
      case rel => exact ⟨k + 1, by omega, by simp, by rw [← HS.out]⟩
      case measure => simp [intOf]; omega
    · have HS := Lib.hid (setI_miss (inRow low high) k (by unfold inRow; simp [g1]))
      go_wp2
      go_round
      case rel => exact ⟨k + 1, by omega, by simp, by rw [← HS.out]⟩
      case measure => simp [intOf]; omega
    · have HS := Lib.hid (setI_miss (inRow low high) k (by unfold inRow; simp [g0]))
      go_wp2
      go_round
      case rel => exact ⟨k + 1, by omega, by simp, by rw [← HS.out]⟩
      case measure => simp [intOf]; omega

/-- With's and Without's elements. -/
def inWith (s : Int) (l : List Int) (k : Nat) : Bool := hasI s (k : Int) || inL l (k : Int)
def inLess (s : Int) (l : List Int) (k : Nat) : Bool := hasI s (k : Int) && !inL l (k : Int)

theorem rWith_any (s : Int) (s0 : 0 ≤ s) (s1 : s ≤ 65535) (ao : Option Addr) (cap : Nat) (l : List Int) (hl : l.length ≤ 140737488355328) (w : World) (hin : IntsIn w ao l) (hok : IntsOk l) :
    Calls Try.prog 11 #[.int .u16 s, .slice ao l.length cap] w fun e w' => e = .returned (.int .u16 (setI (inWith s l) 16)) ∧ w = w' := by
  go_enter Try.func11, Try.ntmps11
  go_wp2
  go_loop [5, 6] (fun t i => ∃ k : Nat, k ≤ 16 ∧ i = .int .i64 k ∧ t = .int .u16 (setI (inWith s l) k))
    (fun _ i => 16 - (intOf i).toNat)
  case atStart => exact ⟨0, Nat.zero_le _, rfl, rfl⟩
  case round =>
    obtain ⟨k, hk, rfl, rfl⟩ := hrel
    have hc : k = 16 ∨ k < 16 := by omega
    rcases hc with rfl | hlt
    · go_wp2
      go_ret
      exact ⟨rfl, rfl⟩
    · obtain ⟨b0, b1⟩ := setI_bd (inWith s l) k (by omega)
      have b2 := setI_room (inWith s l) k hlt
      obtain ⟨b3, b4⟩ := powI_bd k (by omega)
      go_wp2_with fail
      refine (rHas_any s (k : Int) s0 s1 (by omega) (by omega) _).mono ?_
      rintro e w' ⟨rfl, rfl⟩
      cases hb : hasI s (k : Int)
      · go_wp2_with fail
        refine (in_any ao cap l hl (k : Int) (by omega) (by omega) _ hin hok).mono ?_
        rintro e w' ⟨rfl, rfl⟩
        cases hb2 : inL l (k : Int)
        · have HS := Lib.hid (setI_miss (inWith s l) k (by unfold inWith; rw [hb, hb2]; rfl))
          go_wp2
          go_round
          case rel => exact ⟨k + 1, by omega, by simp, by rw [← HS.out]⟩
          case measure => simp [intOf]; omega
        · have HS := Lib.hid (setI_hit (inWith s l) k (by unfold inWith; rw [hb, hb2]; rfl))
          go_wp2_with fail
          refine (power_any k (by omega) _).mono ?_
          rintro e w' ⟨rfl, rfl⟩
          go_wp2
          go_round
          case rel => exact ⟨k + 1, by omega, by simp, by rw [← HS.out]⟩
          case measure => simp [intOf]; omega
      · have HS := Lib.hid (setI_hit (inWith s l) k (by unfold inWith; rw [hb]; rfl))
        go_wp2_with fail
        refine (power_any k (by omega) _).mono ?_
        rintro e w' ⟨rfl, rfl⟩
        go_wp2
        go_round
        case rel => exact ⟨k + 1, by omega, by simp, by rw [← HS.out]⟩
        case measure => simp [intOf]; omega

theorem rWithout_any (s : Int) (s0 : 0 ≤ s) (s1 : s ≤ 65535) (ao : Option Addr) (cap : Nat) (l : List Int) (hl : l.length ≤ 140737488355328) (w : World) (hin : IntsIn w ao l) (hok : IntsOk l) :
    Calls Try.prog 13 #[.int .u16 s, .slice ao l.length cap] w fun e w' => e = .returned (.int .u16 (setI (inLess s l) 16)) ∧ w = w' := by
  go_enter Try.func13, Try.ntmps13
  go_wp2
  go_loop [5, 6] (fun t i => ∃ k : Nat, k ≤ 16 ∧ i = .int .i64 k ∧ t = .int .u16 (setI (inLess s l) k))
    (fun _ i => 16 - (intOf i).toNat)
  case atStart => exact ⟨0, Nat.zero_le _, rfl, rfl⟩
  case round =>
    obtain ⟨k, hk, rfl, rfl⟩ := hrel
    have hc : k = 16 ∨ k < 16 := by omega
    rcases hc with rfl | hlt
    · go_wp2
      go_ret
      exact ⟨rfl, rfl⟩
    · obtain ⟨b0, b1⟩ := setI_bd (inLess s l) k (by omega)
      have b2 := setI_room (inLess s l) k hlt
      obtain ⟨b3, b4⟩ := powI_bd k (by omega)
      go_wp2_with fail
      refine (rHas_any s (k : Int) s0 s1 (by omega) (by omega) _).mono ?_
      rintro e w' ⟨rfl, rfl⟩
      cases hb : hasI s (k : Int)
      · have HS := Lib.hid (setI_miss (inLess s l) k (by unfold inLess; rw [hb]; rfl))
        go_wp2
        go_round
        case rel => exact ⟨k + 1, by omega, by simp, by rw [← HS.out]⟩
        case measure => simp [intOf]; omega
      · go_wp2_with fail
        refine (in_any ao cap l hl (k : Int) (by omega) (by omega) _ hin hok).mono ?_
        rintro e w' ⟨rfl, rfl⟩
        cases hb2 : inL l (k : Int)
        · have HS := Lib.hid (setI_hit (inLess s l) k (by unfold inLess; rw [hb, hb2]; rfl))
          go_wp2_with fail
          refine (power_any k (by omega) _).mono ?_
          rintro e w' ⟨rfl, rfl⟩
          go_wp2
          go_round
          case rel => exact ⟨k + 1, by omega, by simp, by rw [← HS.out]⟩
          case measure => simp [intOf]; omega
        · have HS := Lib.hid (setI_miss (inLess s l) k (by unfold inLess; rw [hb, hb2]; rfl))
          go_wp2
          go_round
          case rel => exact ⟨k + 1, by omega, by simp, by rw [← HS.out]⟩
          case measure => simp [intOf]; omega

theorem part_yes (s t : Int) (s0 : 0 ≤ s) (s1 : s ≤ 65535) (t0 : 0 ≤ t) (t1 : t ≤ 65535) (h : ∀ j : Nat, j < 16 → hasI s (j : Int) = true → hasI t (j : Int) = true) : partI s t = true := by
  unfold partI
  rw [part_iff _ _ (by omega) (by omega)]
  intro k hk hs
  have := h k hk
  rw [has_bit _ _ hk, has_bit _ _ hk] at this
  exact this hs
theorem part_no (s t : Int) (s0 : 0 ≤ s) (s1 : s ≤ 65535) (t0 : 0 ≤ t) (t1 : t ≤ 65535) (k : Nat) (hk : k < 16) (h1 : hasI s (k : Int) = true) (h2 : hasI t (k : Int) = false) : partI s t = false := by
  rw [Bool.eq_false_iff]
  intro h
  unfold partI at h
  rw [part_iff _ _ (by omega) (by omega)] at h
  rw [has_bit _ _ hk] at h1 h2
  have := h k hk h1
  rw [h2] at this
  exact absurd this (by simp)
theorem upto_next (f : Nat → Prop) (k : Nat) (h1 : ∀ j : Nat, j < k → f j) (h2 : f k) : ∀ j : Nat, j < k + 1 → f j := fun j hj => by
  by_cases h : j = k
  · subst h; exact h2
  · exact h1 j (by omega)

theorem rPart_any (s t : Int) (s0 : 0 ≤ s) (s1 : s ≤ 65535) (t0 : 0 ≤ t) (t1 : t ≤ 65535) (w : World) :
    Calls Try.prog 19 #[.int .u16 s, .int .u16 t] w fun e w' => e = .returned (.bool (partI s t)) ∧ w = w' := by
  go_enter Try.func19, Try.ntmps19
  go_wp2
  go_loop [5] (fun i => ∃ k : Nat, k ≤ 16 ∧ i = .int .i64 k ∧ ∀ j : Nat, j < k → (hasI s (j : Int) = true → hasI t (j : Int) = true))
    (fun i => 16 - (intOf i).toNat)
  case atStart => exact ⟨0, Nat.zero_le _, rfl, fun j hj => absurd hj (by omega)⟩
  case round =>
    obtain ⟨k, hk, rfl, hall⟩ := hrel
    have HA := Lib.hid hall
    clear hall
    have hc : k = 16 ∨ k < 16 := by omega
    rcases hc with rfl | hlt
    · have HT := Lib.hid (part_yes s t s0 s1 t0 t1 HA.out)
      go_wp2
      go_ret
      exact ⟨by rw [HT.out]; rfl, rfl⟩
    · go_wp2_with fail
      refine (rHas_any s (k : Int) s0 s1 (by omega) (by omega) _).mono ?_
      rintro e w' ⟨rfl, rfl⟩
      cases hb : hasI s (k : Int)
      · have HN := Lib.hid (upto_next _ k HA.out (fun h => by rw [hb] at h; simp at h))
        go_wp2
        go_round
        case rel => exact ⟨k + 1, by omega, by simp, HN.out⟩
        case measure => simp [intOf]; omega
      · go_wp2_with fail
        refine (rHas_any t (k : Int) t0 t1 (by omega) (by omega) _).mono ?_
        rintro e w' ⟨rfl, rfl⟩
        cases hb2 : hasI t (k : Int)
        · have HT := Lib.hid (part_no s t s0 s1 t0 t1 k hlt hb hb2)
          go_wp2
          go_ret
          exact ⟨by rw [HT.out]; rfl, rfl⟩
        · have HN := Lib.hid (upto_next _ k HA.out (fun _ => hb2))
          go_wp2
          go_round
          case rel => exact ⟨k + 1, by omega, by simp, HN.out⟩
          case measure => simp [intOf]; omega
end Go.Proofs.Ytcecjjjehhjldaa
