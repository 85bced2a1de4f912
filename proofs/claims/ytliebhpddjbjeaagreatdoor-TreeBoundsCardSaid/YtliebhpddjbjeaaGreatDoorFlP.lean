/- float64 at whole numbers from 0 to 2^53: what a conversion, a sum, a difference, a comparison and the way back give. No program stands in here. -/
import Derived.Laws.ComplexArith
namespace Go.Proofs.YtliebhpddjbjeaaGreatDoor
open Go Ieee
set_option linter.unusedVariables false

/-- The bits of the whole number n. -/
def flN (n : Nat) : Nat := if n = 0 then 0 else (1022 + n.log2) * 2 ^ 52 + n * 2 ^ (52 - n.log2)
theorem dbl_last : double.leastPlace = -1074 := by decide
theorem dbl_binade : double.binade = 2 ^ 52 := rfl
theorem dbl_inf : double.infRung = 2047 * 2 ^ 52 := by decide
theorem dbl_sign : double.signWeight = 2 ^ 63 := by decide

theorem log_bd (n : Nat) (h0 : n ≠ 0) (h1 : n < 2 ^ 53) : n.log2 ≤ 52 ∧ 2 ^ n.log2 ≤ n ∧ n < 2 ^ (n.log2 + 1) := by
  refine ⟨?_, Nat.log2_self_le h0, Nat.lt_log2_self⟩
  have := (Nat.log2_lt h0 (k := 53)).2 h1
  omega
theorem mant_bd (n : Nat) (h0 : n ≠ 0) (h1 : n < 2 ^ 53) : 2 ^ 52 ≤ n * 2 ^ (52 - n.log2) ∧ n * 2 ^ (52 - n.log2) < 2 ^ 53 := by
  obtain ⟨a, b, c⟩ := log_bd n h0 h1
  have e1 : 2 ^ 52 = 2 ^ n.log2 * 2 ^ (52 - n.log2) := by rw [← Nat.pow_add]; congr 1; omega
  have e2 : 2 ^ 53 = 2 ^ (n.log2 + 1) * 2 ^ (52 - n.log2) := by rw [← Nat.pow_add]; congr 1; omega
  rw [e1, e2]
  exact ⟨Nat.mul_le_mul_right _ b, Nat.mul_lt_mul_of_pos_right c (Nat.two_pow_pos _)⟩
theorem log_shift (n k : Nat) (h0 : n ≠ 0) : (n * 2 ^ k).log2 = n.log2 + k := by
  have hp : 0 < 2 ^ k := Nat.two_pow_pos k
  have hne : n * 2 ^ k ≠ 0 := Nat.mul_ne_zero h0 (by omega)
  have h1 : 2 ^ (n.log2 + k) ≤ n * 2 ^ k := by rw [Nat.pow_add]; exact Nat.mul_le_mul_right _ (Nat.log2_self_le h0)
  have h2 : n * 2 ^ k < 2 ^ (n.log2 + k + 1) := by
    rw [show n.log2 + k + 1 = (n.log2 + 1) + k by omega, Nat.pow_add]
    exact Nat.mul_lt_mul_of_pos_right Nat.lt_log2_self hp
  have a := (Nat.le_log2 hne).2 h1
  have b := (Nat.log2_lt hne).2 h2
  omega
theorem cut_exact (q g : Nat) (neg : Bool) (hg : 0 < g) : (q * g) / g + (decide (g < 2 * ((q * g) % g)) || (g == 2 * ((q * g) % g) && (q * g) / g % 2 == 1)).toNat = q := by
  rw [Nat.mul_mod_left, Nat.mul_div_cancel _ hg]
  have : (g == 2 * 0) = false := by rw [beq_eq_false_iff_ne]; omega
  rw [this]; simp
theorem cut_of (way : Toward) (hw : way = .even ∨ way = .zero) (neg : Bool) (n drop q g : Nat) (hg : 1 <<< min drop (n.log2 + 2) = g) (h0 : 0 < g) (hn : n = q * g) : way.cut neg n drop = q := by
  unfold Toward.cut
  simp only [hg]
  rw [hn]
  rcases hw with rfl | rfl
  · exact cut_exact q g neg h0
  · simp only [Bool.toNat_false, Nat.add_zero]
    exact Nat.mul_div_cancel _ h0
/-- A whole number, written at any place that its digits allow, is the nearest to itself. -/
theorem nearest_int (n k : Nat) (h0 : n ≠ 0) (h1 : n < 2 ^ 53) (hk : k ≤ 1074) : double.nearest false (n * 2 ^ k) (-(k : Int)) = flN n := by
  obtain ⟨a, b, c⟩ := log_bd n h0 h1
  obtain ⟨m0, m1⟩ := mant_bd n h0 h1
  have hne : n * 2 ^ k ≠ 0 := Nat.mul_ne_zero h0 (by have := Nat.two_pow_pos k; omega)
  unfold Format.nearest
  rw [if_neg hne, log_shift n k h0, dbl_last, dbl_inf, dbl_binade]
  have el : max (-(k : Int) + ((n.log2 + k : Nat) : Int) - ((double.fractionBits : Nat) : Int)) (-1074) = (n.log2 : Int) - 52 := by
    rw [show double.fractionBits = 52 from rfl]; omega
  simp only [el]
  have e0 : ((n.log2 : Int) - 52 - -1074).toNat = 1022 + n.log2 := by omega
  rw [e0]
  have ek : Toward.even.cut false ((n * 2 ^ k) <<< (-(k : Int) - ((n.log2 : Int) - 52)).toNat) ((n.log2 : Int) - 52 - -(k : Int)).toNat = n * 2 ^ (52 - n.log2) := by
    by_cases hc : k ≤ 52 - n.log2
    · have e1 : (-(k : Int) - ((n.log2 : Int) - 52)).toNat = 52 - n.log2 - k := by omega
      have e2 : ((n.log2 : Int) - 52 - -(k : Int)).toNat = 0 := by omega
      rw [e1, e2]
      refine cut_of .even (.inl rfl) false _ 0 _ 1 (by rw [Nat.zero_min]; rfl) (by omega) ?_
      rw [Nat.shiftLeft_eq, Nat.mul_assoc, ← Nat.pow_add, show k + (52 - n.log2 - k) = 52 - n.log2 by omega, Nat.mul_one]
    · have e1 : (-(k : Int) - ((n.log2 : Int) - 52)).toNat = 0 := by omega
      have e2 : ((n.log2 : Int) - 52 - -(k : Int)).toNat = k - (52 - n.log2) := by omega
      rw [e1, e2, Nat.shiftLeft_zero]
      refine cut_of .even (.inl rfl) false _ _ _ (2 ^ (k - (52 - n.log2))) (by rw [log_shift n k h0, show min (k - (52 - n.log2)) (n.log2 + k + 2) = k - (52 - n.log2) by omega, Nat.one_shiftLeft]) (Nat.two_pow_pos _) ?_
      rw [Nat.mul_assoc, ← Nat.pow_add]; congr 2; omega
  rw [ek]
  unfold Format.word flN
  rw [if_neg h0]
  simp only [Bool.false_eq_true, if_false]
  have hle : (1022 + n.log2) * 2 ^ 52 ≤ (1022 + 52) * 2 ^ 52 := Nat.mul_le_mul_right _ (by omega)
  omega
theorem nearest_zero (place : Int) : double.nearest false 0 place = flN 0 := by
  unfold Format.nearest flN Format.word; simp
theorem fl_of_int (n : Nat) (h1 : n < 2 ^ 53) : floatOfInt .f64 (n : Int) = flN n := by
  have e : floatOfInt .f64 (n : Int) = double.nearest false n 0 := by
    show double.nearest (decide ((n : Int) < 0)) (n : Int).natAbs 0 = _
    rw [decide_eq_false (by omega)]; rfl
  rw [e]
  by_cases h0 : n = 0
  · subst h0; exact nearest_zero 0
  · have := nearest_int n 0 h0 h1 (by omega)
    simpa using this
/-- What the bits of n stand for: n at a place from -1074 to 0. -/
theorem read_fl (n : Nat) (h1 : n < 2 ^ 53) : ∃ k : Nat, k ≤ 1074 ∧ double.read (flN n) = .number false (n * 2 ^ k) (-(k : Int)) := by
  by_cases h0 : n = 0
  · subst h0
    obtain ⟨k, hk⟩ : ∃ k : Nat, k = 1074 := ⟨_, rfl⟩
    refine ⟨k, by omega, ?_⟩
    rw [Nat.zero_mul]
    subst hk
    rfl
  · obtain ⟨a, b, c⟩ := log_bd n h0 h1
    obtain ⟨m0, m1⟩ := mant_bd n h0 h1
    refine ⟨52 - n.log2, by omega, ?_⟩
    have ef : flN n = (1023 + n.log2) * 2 ^ 52 + (n * 2 ^ (52 - n.log2) - 2 ^ 52) := by
      unfold flN; rw [if_neg h0, show 1023 + n.log2 = (1022 + n.log2) + 1 by omega, Nat.add_mul]; omega
    generalize hm : n * 2 ^ (52 - n.log2) = m at *
    have hlt : flN n < 2047 * 2 ^ 52 := by
      have : (1023 + n.log2) * 2 ^ 52 ≤ (1023 + 52) * 2 ^ 52 := Nat.mul_le_mul_right _ (by omega)
      omega
    have hge : ¬ flN n < 2 ^ 52 := by
      have : 1023 * 2 ^ 52 ≤ (1023 + n.log2) * 2 ^ 52 := Nat.mul_le_mul_right _ (by omega)
      omega
    have hmod : flN n % 2 ^ 63 = flN n := Nat.mod_eq_of_lt (by omega)
    have hdiv : flN n / 2 ^ 63 = 0 := Nat.div_eq_of_lt (by omega)
    have hd : flN n / 2 ^ 52 = 1023 + n.log2 := by
      rw [ef, Nat.mul_comm, Nat.mul_add_div (by decide), Nat.div_eq_of_lt (by omega)]; omega
    have hr : flN n % 2 ^ 52 = m - 2 ^ 52 := by
      rw [ef, Nat.mul_comm, Nat.mul_add_mod, Nat.mod_eq_of_lt (by omega)]
    unfold Format.read
    simp only [dbl_sign, dbl_binade, dbl_inf, dbl_last, hmod, hdiv, hd, hr]
    rw [if_neg hge, if_pos hlt]
    have e1 : 2 ^ 52 + (m - 2 ^ 52) = m := by omega
    have e2 : (-1074 : Int) + ((1023 + n.log2 - 1 : Nat) : Int) = -((52 - n.log2 : Nat) : Int) := by omega
    rw [e1, e2]; rfl
theorem base_of (k : Nat) (b : Int) (hb : b ≤ -(k : Int)) (n : Nat) : signed false (n * 2 ^ k) (-(k : Int) - b).toNat = ((n * 2 ^ (-b).toNat : Nat) : Int) := by
  unfold signed
  simp only [Bool.false_eq_true, if_false]
  rw [Nat.shiftLeft_eq, Nat.mul_assoc, ← Nat.pow_add]
  congr 3; omega
theorem add_fl (m n : Nat) (hm : m < 2 ^ 52) (hn : n < 2 ^ 52) : double.add (flN m) (flN n) = some (flN (m + n)) := by
  obtain ⟨k, hk, e1⟩ := read_fl m (by omega)
  obtain ⟨l, hl, e2⟩ := read_fl n (by omega)
  unfold Format.add
  rw [e1, e2]
  unfold Datum.sum
  simp only [Option.map_some]
  have hb1 : min (-(k : Int)) (-(l : Int)) ≤ -(k : Int) := by omega
  have hb2 : min (-(k : Int)) (-(l : Int)) ≤ -(l : Int) := by omega
  obtain ⟨j, hj⟩ : ∃ j : Nat, min (-(k : Int)) (-(l : Int)) = -(j : Int) := ⟨max k l, by omega⟩
  have hj2 : j ≤ 1074 := by omega
  rw [hj] at hb1 hb2 ⊢
  rw [base_of k _ hb1, base_of l _ hb2, Int.neg_neg, Int.toNat_natCast, ← Int.natCast_add, ← Nat.add_mul, Int.natAbs_natCast]
  by_cases h0 : m + n = 0
  · rw [h0]; simp [Format.write, nearest_zero]
  · have hp := Nat.two_pow_pos j
    have hne : (m + n) * 2 ^ j ≠ 0 := Nat.mul_ne_zero h0 (by omega)
    rw [if_neg (by omega), decide_eq_false (by omega)]
    unfold Format.write
    simp only
    rw [nearest_int (m + n) j h0 (by omega) hj2]
theorem sub_fl (m n : Nat) (hm : m < 2 ^ 53) (hn : n ≤ m) : double.sub (flN m) (flN n) = some (flN (m - n)) := by
  obtain ⟨k, hk, e1⟩ := read_fl m hm
  obtain ⟨l, hl, e2⟩ := read_fl n (by omega)
  unfold Format.sub
  rw [e1, e2]
  unfold Datum.opposite Datum.sum
  simp only [Option.map_some]
  have hb1 : min (-(k : Int)) (-(l : Int)) ≤ -(k : Int) := by omega
  have hb2 : min (-(k : Int)) (-(l : Int)) ≤ -(l : Int) := by omega
  obtain ⟨j, hj⟩ : ∃ j : Nat, min (-(k : Int)) (-(l : Int)) = -(j : Int) := ⟨max k l, by omega⟩
  have hj2 : j ≤ 1074 := by omega
  rw [hj] at hb1 hb2 ⊢
  have hneg : ∀ x u, signed (!false) x u = - signed false x u := fun x u => by unfold signed; simp
  rw [hneg, base_of k _ hb1, base_of l _ hb2, Int.neg_neg, Int.toNat_natCast]
  have hle : n * 2 ^ j ≤ m * 2 ^ j := Nat.mul_le_mul_right _ hn
  have e3 : ((m * 2 ^ j : Nat) : Int) + -((n * 2 ^ j : Nat) : Int) = (((m - n) * 2 ^ j : Nat) : Int) := by rw [Nat.sub_mul]; omega
  rw [e3, Int.natAbs_natCast]
  by_cases h0 : m - n = 0
  · rw [h0]; simp [Format.write, nearest_zero]
  · have hp := Nat.two_pow_pos j
    have hne : (m - n) * 2 ^ j ≠ 0 := Nat.mul_ne_zero h0 (by omega)
    rw [if_neg (by omega), decide_eq_false (by omega)]
    unfold Format.write
    simp only
    rw [nearest_int (m - n) j h0 (by omega) hj2]
theorem order_fl (m n : Nat) (hm : m < 2 ^ 53) (hn : n < 2 ^ 53) : double.order (flN m) (flN n) = some (compare m n) := by
  obtain ⟨k, hk, e1⟩ := read_fl m hm
  obtain ⟨l, hl, e2⟩ := read_fl n hn
  unfold Format.order
  rw [e1, e2]
  unfold Datum.order
  simp only
  have hb1 : min (-(k : Int)) (-(l : Int)) ≤ -(k : Int) := by omega
  have hb2 : min (-(k : Int)) (-(l : Int)) ≤ -(l : Int) := by omega
  obtain ⟨j, hj⟩ : ∃ j : Nat, min (-(k : Int)) (-(l : Int)) = -(j : Int) := ⟨max k l, by omega⟩
  rw [hj] at hb1 hb2 ⊢
  rw [base_of k _ hb1, base_of l _ hb2, Int.neg_neg, Int.toNat_natCast]
  congr 1
  have hp := Nat.two_pow_pos j
  rcases Nat.lt_trichotomy m n with h | h | h
  · have : m * 2 ^ j < n * 2 ^ j := Nat.mul_lt_mul_of_pos_right h hp
    rw [Nat.compare_eq_lt.2 h, Int.compare_eq_lt.2 (by omega)]
  · subst h; simp
  · have : n * 2 ^ j < m * 2 ^ j := Nat.mul_lt_mul_of_pos_right h hp
    rw [Nat.compare_eq_gt.2 h, Int.compare_eq_gt.2 (by omega)]
theorem to_int_fl (n : Nat) (h1 : n < 2 ^ 53) (h2 : n ≤ 9223372036854775807) : floatToIntVal .f64 (flN n) .i64 = some (n : Int) := by
  obtain ⟨k, hk, e1⟩ := read_fl n h1
  have e2 : (FloatKind.f64.decode (flN n)).toInt .zero = some (n : Int) := by
    show (double.read (flN n)).toInt .zero = _
    rw [e1]
    have e3 : Toward.zero.cut false ((n * 2 ^ k) <<< (-(k : Int)).toNat) (-(-(k : Int))).toNat = n := by
      rw [show (-(k : Int)).toNat = 0 by omega, Int.neg_neg, Int.toNat_natCast, Nat.shiftLeft_zero]
      by_cases h0 : n = 0
      · subst h0
        exact cut_of .zero (.inr rfl) false _ k 0 (1 <<< min k ((0 * 2 ^ k).log2 + 2)) rfl (by rw [Nat.one_shiftLeft]; exact Nat.two_pow_pos _) (by omega)
      · exact cut_of .zero (.inr rfl) false _ k n (2 ^ k) (by rw [log_shift n k h0, show min k (n.log2 + k + 2) = k by omega, Nat.one_shiftLeft]) (Nat.two_pow_pos k) rfl
    unfold Datum.toInt Datum.integral
    simp only [e3]
    unfold signed
    simp
  unfold floatToIntVal
  rw [e2]
  simp only
  rw [if_pos]
  have e3 : IntKind.i64.min = -9223372036854775808 := rfl
  have e4 : IntKind.i64.max = 9223372036854775807 := rfl
  rw [e3, e4]; omega
end Go.Proofs.YtliebhpddjbjeaaGreatDoor
