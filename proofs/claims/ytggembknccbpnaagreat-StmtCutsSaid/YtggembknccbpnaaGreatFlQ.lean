/- Several texts in one. -/
import Derived.Laws.ComplexArith
import GoSem.Extern.MathFloor
/- float64 at whole numbers from 0 to 2^53: what a conversion, a sum, a difference, a comparison and the way back give. No program stands in here. -/
namespace Go.Proofs.YtggembknccbpnaaGreat
open Go Ieee
set_option linter.unusedVariables false

/-- The bits of the whole number n. -/
def flN (n : Nat) : Nat := if n = 0 then 0 else (1022 + n.log2) * 2 ^ 52 + n * 2 ^ (52 - n.log2)
theorem dbl_last : double.leastPlace = -1074 := by decide
theorem dbl_binade : double.binade = 2 ^ 52 := rfl
theorem dbl_inf : double.infRung = 2047 * 2 ^ 52 := by decide
theorem dbl_sign : double.signWeight = 2 ^ 63 := by decide

theorem log_bd (n : Nat) (h0 : n ≠ 0) (h1 : n < 2 ^ 53) : n.log2 ≤ 52 ∧ 2 ^ n.log2 ≤ n ∧ n < 2 ^ (n.log2 + 1) := by
  refine ⟨?_, Nat.log2_self_le h0, Nat.lt_log2_self⟩
  have := (Nat.log2_lt h0 (k := 53)).2 h1
  omega
theorem mant_bd (n : Nat) (h0 : n ≠ 0) (h1 : n < 2 ^ 53) : 2 ^ 52 ≤ n * 2 ^ (52 - n.log2) ∧ n * 2 ^ (52 - n.log2) < 2 ^ 53 := by
  obtain ⟨a, b, c⟩ := log_bd n h0 h1
  have e1 : 2 ^ 52 = 2 ^ n.log2 * 2 ^ (52 - n.log2) := by rw [← Nat.pow_add]; congr 1; omega
  have e2 : 2 ^ 53 = 2 ^ (n.log2 + 1) * 2 ^ (52 - n.log2) := by rw [← Nat.pow_add]; congr 1; omega
  rw [e1, e2]
  exact ⟨Nat.mul_le_mul_right _ b, Nat.mul_lt_mul_of_pos_right c (Nat.two_pow_pos _)⟩
theorem log_shift (n k : Nat) (h0 : n ≠ 0) : (n * 2 ^ k).log2 = n.log2 + k := by
  have hp : 0 < 2 ^ k := Nat.two_pow_pos k
  have hne : n * 2 ^ k ≠ 0 := Nat.mul_ne_zero h0 (by omega)
  have h1 : 2 ^ (n.log2 + k) ≤ n * 2 ^ k := by rw [Nat.pow_add]; exact Nat.mul_le_mul_right _ (Nat.log2_self_le h0)
  have h2 : n * 2 ^ k < 2 ^ (n.log2 + k + 1) := by
    rw [show n.log2 + k + 1 = (n.log2 + 1) + k by omega, Nat.pow_add]
    exact Nat.mul_lt_mul_of_pos_right Nat.lt_log2_self hp
  have a := (Nat.le_log2 hne).2 h1
  have b := (Nat.log2_lt hne).2 h2
  omega
theorem cut_exact (q g : Nat) (neg : Bool) (hg : 0 < g) : (q * g) / g + (decide (g < 2 * ((q * g) % g)) || (g == 2 * ((q * g) % g) && (q * g) / g % 2 == 1)).toNat = q := by
  rw [Nat.mul_mod_left, Nat.mul_div_cancel _ hg]
  have : (g == 2 * 0) = false := by rw [beq_eq_false_iff_ne]; omega
  rw [this]; simp
theorem cut_of (way : Toward) (hw : way = .even ∨ way = .zero) (neg : Bool) (n drop q g : Nat) (hg : 1 <<< min drop (n.log2 + 2) = g) (h0 : 0 < g) (hn : n = q * g) : way.cut neg n drop = q := by
  unfold Toward.cut
  simp only [hg]
  rw [hn]
  rcases hw with rfl | rfl
  · exact cut_exact q g neg h0
  · simp only [Bool.toNat_false, Nat.add_zero]
    exact Nat.mul_div_cancel _ h0
/-- A whole number, written at any place that its digits allow, is the nearest to itself. -/
theorem nearest_int (n k : Nat) (h0 : n ≠ 0) (h1 : n < 2 ^ 53) (hk : k ≤ 1074) : double.nearest false (n * 2 ^ k) (-(k : Int)) = flN n := by
  obtain ⟨a, b, c⟩ := log_bd n h0 h1
  obtain ⟨m0, m1⟩ := mant_bd n h0 h1
  have hne : n * 2 ^ k ≠ 0 := Nat.mul_ne_zero h0 (by have := Nat.two_pow_pos k; omega)
  unfold Format.nearest
  rw [if_neg hne, log_shift n k h0, dbl_last, dbl_inf, dbl_binade]
  have el : max (-(k : Int) + ((n.log2 + k : Nat) : Int) - ((double.fractionBits : Nat) : Int)) (-1074) = (n.log2 : Int) - 52 := by
    rw [show double.fractionBits = 52 from rfl]; omega
  simp only [el]
  have e0 : ((n.log2 : Int) - 52 - -1074).toNat = 1022 + n.log2 := by omega
  rw [e0]
  have ek : Toward.even.cut false ((n * 2 ^ k) <<< (-(k : Int) - ((n.log2 : Int) - 52)).toNat) ((n.log2 : Int) - 52 - -(k : Int)).toNat = n * 2 ^ (52 - n.log2) := by
    by_cases hc : k ≤ 52 - n.log2
    · have e1 : (-(k : Int) - ((n.log2 : Int) - 52)).toNat = 52 - n.log2 - k := by omega
      have e2 : ((n.log2 : Int) - 52 - -(k : Int)).toNat = 0 := by omega
      rw [e1, e2]
      refine cut_of .even (.inl rfl) false _ 0 _ 1 (by rw [Nat.zero_min]; rfl) (by omega) ?_
      rw [Nat.shiftLeft_eq, Nat.mul_assoc, ← Nat.pow_add, show k + (52 - n.log2 - k) = 52 - n.log2 by omega, Nat.mul_one]
    · have e1 : (-(k : Int) - ((n.log2 : Int) - 52)).toNat = 0 := by omega
      have e2 : ((n.log2 : Int) - 52 - -(k : Int)).toNat = k - (52 - n.log2) := by omega
      rw [e1, e2, Nat.shiftLeft_zero]
      refine cut_of .even (.inl rfl) false _ _ _ (2 ^ (k - (52 - n.log2))) (by rw [log_shift n k h0, show min (k - (52 - n.log2)) (n.log2 + k + 2) = k - (52 - n.log2) by omega, Nat.one_shiftLeft]) (Nat.two_pow_pos _) ?_
      rw [Nat.mul_assoc, ← Nat.pow_add]; congr 2; omega
  rw [ek]
  unfold Format.word flN
  rw [if_neg h0]
  simp only [Bool.false_eq_true, if_false]
  have hle : (1022 + n.log2) * 2 ^ 52 ≤ (1022 + 52) * 2 ^ 52 := Nat.mul_le_mul_right _ (by omega)
  omega
theorem nearest_zero (place : Int) : double.nearest false 0 place = flN 0 := by
  unfold Format.nearest flN Format.word; simp
theorem fl_of_int (n : Nat) (h1 : n < 2 ^ 53) : floatOfInt .f64 (n : Int) = flN n := by
  have e : floatOfInt .f64 (n : Int) = double.nearest false n 0 := by
    show double.nearest (decide ((n : Int) < 0)) (n : Int).natAbs 0 = _
    rw [decide_eq_false (by omega)]; rfl
  rw [e]
  by_cases h0 : n = 0
  · subst h0; exact nearest_zero 0
  · have := nearest_int n 0 h0 h1 (by omega)
    simpa using this
/-- What the bits of n stand for: n at a place from -1074 to 0. -/
theorem read_fl (n : Nat) (h1 : n < 2 ^ 53) : ∃ k : Nat, k ≤ 1074 ∧ double.read (flN n) = .number false (n * 2 ^ k) (-(k : Int)) := by
  by_cases h0 : n = 0
  · subst h0
    obtain ⟨k, hk⟩ : ∃ k : Nat, k = 1074 := ⟨_, rfl⟩
    refine ⟨k, by omega, ?_⟩
    rw [Nat.zero_mul]
    subst hk
    rfl
  · obtain ⟨a, b, c⟩ := log_bd n h0 h1
    obtain ⟨m0, m1⟩ := mant_bd n h0 h1
    refine ⟨52 - n.log2, by omega, ?_⟩
    have ef : flN n = (1023 + n.log2) * 2 ^ 52 + (n * 2 ^ (52 - n.log2) - 2 ^ 52) := by
      unfold flN; rw [if_neg h0, show 1023 + n.log2 = (1022 + n.log2) + 1 by omega, Nat.add_mul]; omega
    generalize hm : n * 2 ^ (52 - n.log2) = m at *
    have hlt : flN n < 2047 * 2 ^ 52 := by
      have : (1023 + n.log2) * 2 ^ 52 ≤ (1023 + 52) * 2 ^ 52 := Nat.mul_le_mul_right _ (by omega)
      omega
    have hge : ¬ flN n < 2 ^ 52 := by
      have : 1023 * 2 ^ 52 ≤ (1023 + n.log2) * 2 ^ 52 := Nat.mul_le_mul_right _ (by omega)
      omega
    have hmod : flN n % 2 ^ 63 = flN n := Nat.mod_eq_of_lt (by omega)
    have hdiv : flN n / 2 ^ 63 = 0 := Nat.div_eq_of_lt (by omega)
    have hd : flN n / 2 ^ 52 = 1023 + n.log2 := by
      rw [ef, Nat.mul_comm, Nat.mul_add_div (by decide), Nat.div_eq_of_lt (by omega)]; omega
    have hr : flN n % 2 ^ 52 = m - 2 ^ 52 := by
      rw [ef, Nat.mul_comm, Nat.mul_add_mod, Nat.mod_eq_of_lt (by omega)]
    unfold Format.read
    simp only [dbl_sign, dbl_binade, dbl_inf, dbl_last, hmod, hdiv, hd, hr]
    rw [if_neg hge, if_pos hlt]
    have e1 : 2 ^ 52 + (m - 2 ^ 52) = m := by omega
    have e2 : (-1074 : Int) + ((1023 + n.log2 - 1 : Nat) : Int) = -((52 - n.log2 : Nat) : Int) := by omega
    rw [e1, e2]; rfl
theorem base_of (k : Nat) (b : Int) (hb : b ≤ -(k : Int)) (n : Nat) : signed false (n * 2 ^ k) (-(k : Int) - b).toNat = ((n * 2 ^ (-b).toNat : Nat) : Int) := by
  unfold signed
  simp only [Bool.false_eq_true, if_false]
  rw [Nat.shiftLeft_eq, Nat.mul_assoc, ← Nat.pow_add]
  congr 3; omega
theorem add_fl (m n : Nat) (hm : m < 2 ^ 52) (hn : n < 2 ^ 52) : double.add (flN m) (flN n) = some (flN (m + n)) := by
  obtain ⟨k, hk, e1⟩ := read_fl m (by omega)
  obtain ⟨l, hl, e2⟩ := read_fl n (by omega)
  unfold Format.add
  rw [e1, e2]
  unfold Datum.sum
  simp only [Option.map_some]
  have hb1 : min (-(k : Int)) (-(l : Int)) ≤ -(k : Int) := by omega
  have hb2 : min (-(k : Int)) (-(l : Int)) ≤ -(l : Int) := by omega
  obtain ⟨j, hj⟩ : ∃ j : Nat, min (-(k : Int)) (-(l : Int)) = -(j : Int) := ⟨max k l, by omega⟩
  have hj2 : j ≤ 1074 := by omega
  rw [hj] at hb1 hb2 ⊢
  rw [base_of k _ hb1, base_of l _ hb2, Int.neg_neg, Int.toNat_natCast, ← Int.natCast_add, ← Nat.add_mul, Int.natAbs_natCast]
  by_cases h0 : m + n = 0
  · rw [h0]; simp [Format.write, nearest_zero]
  · have hp := Nat.two_pow_pos j
    have hne : (m + n) * 2 ^ j ≠ 0 := Nat.mul_ne_zero h0 (by omega)
    rw [if_neg (by omega), decide_eq_false (by omega)]
    unfold Format.write
    simp only
    rw [nearest_int (m + n) j h0 (by omega) hj2]
theorem sub_fl (m n : Nat) (hm : m < 2 ^ 53) (hn : n ≤ m) : double.sub (flN m) (flN n) = some (flN (m - n)) := by
  obtain ⟨k, hk, e1⟩ := read_fl m hm
  obtain ⟨l, hl, e2⟩ := read_fl n (by omega)
  unfold Format.sub
  rw [e1, e2]
  unfold Datum.opposite Datum.sum
  simp only [Option.map_some]
  have hb1 : min (-(k : Int)) (-(l : Int)) ≤ -(k : Int) := by omega
  have hb2 : min (-(k : Int)) (-(l : Int)) ≤ -(l : Int) := by omega
  obtain ⟨j, hj⟩ : ∃ j : Nat, min (-(k : Int)) (-(l : Int)) = -(j : Int) := ⟨max k l, by omega⟩
  have hj2 : j ≤ 1074 := by omega
  rw [hj] at hb1 hb2 ⊢
  have hneg : ∀ x u, signed (!false) x u = - signed false x u := fun x u => by unfold signed; simp
  rw [hneg, base_of k _ hb1, base_of l _ hb2, Int.neg_neg, Int.toNat_natCast]
  have hle : n * 2 ^ j ≤ m * 2 ^ j := Nat.mul_le_mul_right _ hn
  have e3 : ((m * 2 ^ j : Nat) : Int) + -((n * 2 ^ j : Nat) : Int) = (((m - n) * 2 ^ j : Nat) : Int) := by rw [Nat.sub_mul]; omega
  rw [e3, Int.natAbs_natCast]
  by_cases h0 : m - n = 0
  · rw [h0]; simp [Format.write, nearest_zero]
  · have hp := Nat.two_pow_pos j
    have hne : (m - n) * 2 ^ j ≠ 0 := Nat.mul_ne_zero h0 (by omega)
    rw [if_neg (by omega), decide_eq_false (by omega)]
    unfold Format.write
    simp only
    rw [nearest_int (m - n) j h0 (by omega) hj2]
theorem order_fl (m n : Nat) (hm : m < 2 ^ 53) (hn : n < 2 ^ 53) : double.order (flN m) (flN n) = some (compare m n) := by
  obtain ⟨k, hk, e1⟩ := read_fl m hm
  obtain ⟨l, hl, e2⟩ := read_fl n hn
  unfold Format.order
  rw [e1, e2]
  unfold Datum.order
  simp only
  have hb1 : min (-(k : Int)) (-(l : Int)) ≤ -(k : Int) := by omega
  have hb2 : min (-(k : Int)) (-(l : Int)) ≤ -(l : Int) := by omega
  obtain ⟨j, hj⟩ : ∃ j : Nat, min (-(k : Int)) (-(l : Int)) = -(j : Int) := ⟨max k l, by omega⟩
  rw [hj] at hb1 hb2 ⊢
  rw [base_of k _ hb1, base_of l _ hb2, Int.neg_neg, Int.toNat_natCast]
  congr 1
  have hp := Nat.two_pow_pos j
  rcases Nat.lt_trichotomy m n with h | h | h
  · have : m * 2 ^ j < n * 2 ^ j := Nat.mul_lt_mul_of_pos_right h hp
    rw [Nat.compare_eq_lt.2 h, Int.compare_eq_lt.2 (by omega)]
  · subst h; simp
  · have : n * 2 ^ j < m * 2 ^ j := Nat.mul_lt_mul_of_pos_right h hp
    rw [Nat.compare_eq_gt.2 h, Int.compare_eq_gt.2 (by omega)]
theorem to_int_fl (n : Nat) (h1 : n < 2 ^ 53) (h2 : n ≤ 9223372036854775807) : floatToIntVal .f64 (flN n) .i64 = some (n : Int) := by
  obtain ⟨k, hk, e1⟩ := read_fl n h1
  have e2 : (FloatKind.f64.decode (flN n)).toInt .zero = some (n : Int) := by
    show (double.read (flN n)).toInt .zero = _
    rw [e1]
    have e3 : Toward.zero.cut false ((n * 2 ^ k) <<< (-(k : Int)).toNat) (-(-(k : Int))).toNat = n := by
      rw [show (-(k : Int)).toNat = 0 by omega, Int.neg_neg, Int.toNat_natCast, Nat.shiftLeft_zero]
      by_cases h0 : n = 0
      · subst h0
        exact cut_of .zero (.inr rfl) false _ k 0 (1 <<< min k ((0 * 2 ^ k).log2 + 2)) rfl (by rw [Nat.one_shiftLeft]; exact Nat.two_pow_pos _) (by omega)
      · exact cut_of .zero (.inr rfl) false _ k n (2 ^ k) (by rw [log_shift n k h0, show min k (n.log2 + k + 2) = k by omega, Nat.one_shiftLeft]) (Nat.two_pow_pos k) rfl
    unfold Datum.toInt Datum.integral
    simp only [e3]
    unfold signed
    simp
  unfold floatToIntVal
  rw [e2]
  simp only
  rw [if_pos]
  have e3 : IntKind.i64.min = -9223372036854775808 := rfl
  have e4 : IntKind.i64.max = 9223372036854775807 := rfl
  rw [e3, e4]; omega
end Go.Proofs.YtggembknccbpnaaGreat
/- float64 at whole numbers that a place cannot have: below 1, above 2^30; and math.Trunc at a whole number. No program stands in here. -/
namespace Go.Proofs.YtggembknccbpnaaGreat
open Go Ieee
set_option linter.unusedVariables false

theorem cut_bd (neg : Bool) (n d q : Nat) (h : n / 2 ^ d = q) (hd : d ≤ n.log2 + 2) : q ≤ Toward.even.cut neg n d ∧ Toward.even.cut neg n d ≤ q + 1 := by
  unfold Toward.cut
  simp only [show min d (n.log2 + 2) = d by omega, Nat.one_shiftLeft, h]
  have hb : ∀ b : Bool, b.toNat ≤ 1 := fun b => by cases b <;> decide
  refine ⟨by omega, ?_⟩
  have := hb (decide (2 ^ d < 2 * (n % 2 ^ d)) || (2 ^ d == 2 * (n % 2 ^ d) && q % 2 == 1))
  omega
theorem rung_lt (g X : Nat) (hg : g < 64) (hX : X ≤ 2 ^ 53) : (1022 + g) * 2 ^ 52 + X < 2047 * 2 ^ 52 := by
  have := Nat.mul_le_mul_right (2 ^ 52) (show 1022 + g ≤ 1085 by omega)
  omega
theorem rung_fits (g X : Nat) (hg : g < 64) (hX : X ≤ 2 ^ 53) : (1022 + g) * 2 ^ 52 + X ≤ 2047 * 2 ^ 52 := Nat.le_of_lt (rung_lt g X hg hX)
theorem rung_ge (g X : Nat) : 2 ^ 52 ≤ (1022 + g) * 2 ^ 52 + X := by
  have := Nat.mul_le_mul_right (2 ^ 52) (show 1022 ≤ 1022 + g by omega)
  omega
theorem rung_big (g X : Nat) (hg : 53 ≤ g) : 1075 ≤ ((1022 + g) * 2 ^ 52 + X) / 2 ^ 52 := by
  rw [Nat.mul_comm, Nat.mul_add_div (Nat.two_pow_pos 52)]
  omega
theorem word_min (neg : Bool) (a b : Nat) (h : a ≤ b) : double.word neg (min a b) = double.word neg a := by rw [Nat.min_eq_left h]
theorem nearest_any (neg : Bool) (m : Nat) (h0 : m ≠ 0) (h1 : m < 2 ^ 64) : ∃ q, 2 ^ 52 ≤ q ∧ q ≤ 2 ^ 53 ∧ double.nearest neg m 0 = double.word neg ((1022 + m.log2) * 2 ^ 52 + q) := by
  have hlog : m.log2 < 64 := (Nat.log2_lt h0).2 h1
  have hlo := Nat.log2_self_le h0
  have hhi := Nat.lt_log2_self (n := m)
  unfold Format.nearest
  rw [if_neg h0, dbl_last, dbl_inf, dbl_binade]
  have el : max ((0 : Int) + (m.log2 : Nat) - ((double.fractionBits : Nat) : Int)) (-1074) = (m.log2 : Int) - 52 := by
    rw [show double.fractionBits = 52 from rfl]; omega
  simp only [el]
  have e0 : ((m.log2 : Int) - 52 - -1074).toNat = 1022 + m.log2 := by omega
  rw [e0]
  have hbig : (1022 + m.log2) * 2 ^ 52 ≤ (1022 + 63) * 2 ^ 52 := Nat.mul_le_mul_right _ (by omega)
  by_cases hc : m.log2 ≤ 52
  · have e1 : ((0 : Int) - ((m.log2 : Int) - 52)).toNat = 52 - m.log2 := by omega
    have e2 : ((m.log2 : Int) - 52 - 0).toNat = 0 := by omega
    obtain ⟨m0, m1⟩ := mant_bd m h0 (Nat.lt_of_lt_of_le hhi (Nat.pow_le_pow_right (by omega) (by omega)))
    rw [e1, e2, Nat.shiftLeft_eq, cut_of .even (.inl rfl) neg _ 0 (m * 2 ^ (52 - m.log2)) 1 (by rw [Nat.zero_min]; rfl) (by omega) (by omega)]
    exact ⟨_, m0, Nat.le_of_lt m1, word_min neg _ _ (rung_fits _ _ hlog (by first | exact Nat.le_of_lt m1 | omega))⟩
  · obtain ⟨d, hd⟩ : ∃ d, m.log2 = 52 + d := ⟨m.log2 - 52, by omega⟩
    have e1 : ((0 : Int) - ((m.log2 : Int) - 52)).toNat = 0 := by omega
    have e2 : ((m.log2 : Int) - 52 - 0).toNat = d := by omega
    rw [e1, e2, Nat.shiftLeft_zero]
    have hp := Nat.two_pow_pos d
    have a1 : 2 ^ 52 ≤ m / 2 ^ d := by
      rw [Nat.le_div_iff_mul_le hp, ← Nat.pow_add]; rw [hd] at hlo; exact hlo
    have a2 : m / 2 ^ d < 2 ^ 53 := by
      rw [Nat.div_lt_iff_lt_mul hp, ← Nat.pow_add, show 53 + d = 52 + d + 1 by omega]; rw [hd] at hhi; exact hhi
    obtain ⟨b1, b2⟩ := cut_bd neg m d _ rfl (by omega)
    generalize Toward.even.cut neg m d = K at b1 b2 ⊢
    exact ⟨K, Nat.le_trans a1 b1, by omega, word_min neg _ _ (rung_fits _ _ hlog (by first | exact Nat.le_of_lt m1 | omega))⟩
theorem word_read (neg : Bool) (R : Nat) (h0 : 2 ^ 52 ≤ R) (h1 : R < 2047 * 2 ^ 52) : double.read (double.word neg R) = .number neg (2 ^ 52 + R % 2 ^ 52) (-1074 + ((R / 2 ^ 52 - 1 : Nat) : Int)) := by
  have hw : double.word neg R = (if neg then 2 ^ 63 else 0) + R := by
    unfold Format.word
    rw [dbl_sign]
    cases neg
    · rw [if_neg (by decide), if_neg (by decide), Nat.zero_add]
    · rw [if_pos rfl, if_pos rfl]
  have hmod : double.word neg R % 2 ^ 63 = R := by
    rw [hw]
    cases neg
    · rw [if_neg (by decide)]; omega
    · rw [if_pos rfl]; omega
  have hdiv : (double.word neg R / 2 ^ 63 % 2 == 1) = neg := by
    rw [hw]
    cases neg
    · rw [if_neg (by decide), beq_eq_false_iff_ne]; omega
    · rw [if_pos rfl, beq_iff_eq]; omega
  unfold Format.read
  simp only [dbl_sign, dbl_binade, dbl_inf, dbl_last, hmod, hdiv]
  rw [if_neg (by omega), if_pos h1]
/-- What the bits of a whole number beyond 0 stand for. -/
theorem read_any (n : Int) (h0 : n ≠ 0) (hb : n.natAbs < 2 ^ 64) : ∃ (sig : Nat) (p : Int), 2 ^ 52 ≤ sig ∧ -1074 ≤ p ∧ (2 ^ 53 ≤ n.natAbs → 0 ≤ p) ∧ double.read (floatOfInt .f64 n) = .number (decide (n < 0)) sig p := by
  obtain ⟨q, q0, q1, hq⟩ := nearest_any (decide (n < 0)) n.natAbs (by omega) hb
  have e : floatOfInt .f64 n = double.nearest (decide (n < 0)) n.natAbs 0 := rfl
  have hlog : n.natAbs.log2 < 64 := (Nat.log2_lt (by omega)).2 hb
  refine ⟨_, _, ?_, ?_, ?_, by rw [e, hq]; exact word_read _ _ (rung_ge _ _) (rung_lt _ _ hlog q1)⟩
  · exact Nat.le_add_right _ _
  · exact Int.le_add_of_nonneg_right (Int.natCast_nonneg _)
  · intro hl
    have h3 := rung_big n.natAbs.log2 q ((Nat.le_log2 (by omega)).2 hl)
    generalize ((1022 + n.natAbs.log2) * 2 ^ 52 + q) / 2 ^ 52 = T at h3 ⊢
    omega
theorem fl_zero : floatOfInt .f64 0 = flN 0 := by
  have := fl_of_int 0 (by omega)
  simpa using this
theorem order_low (n : Int) (h : n < 1) (hb : -9223372036854775808 ≤ n) (N : Nat) (hN : 1 ≤ N) (hN2 : N < 2 ^ 53) : double.order (floatOfInt .f64 n) (flN N) = some .lt := by
  by_cases h0 : n = 0
  · subst h0
    have h2 := order_fl 0 N (by omega) hN2
    rw [Nat.compare_eq_lt.2 (by omega)] at h2
    exact (congrArg (fun x => double.order x (flN N)) fl_zero).trans h2
  · obtain ⟨sig, p, hs, hp, _, hr⟩ := read_any n h0 (by omega)
    obtain ⟨k, hk, e1⟩ := read_fl N hN2
    unfold Format.order
    rw [hr, e1, decide_eq_true (by omega : n < 0)]
    unfold Datum.order
    simp only
    congr 1
    refine Int.compare_eq_lt.2 ?_
    unfold signed
    simp only [Bool.false_eq_true, if_false, if_true]
    have : 0 < (N * 2 ^ k) <<< (-(k : Int) - min p (-(k : Int))).toNat := by
      rw [Nat.shiftLeft_eq]; exact Nat.mul_pos (Nat.mul_pos (by omega) (Nat.two_pow_pos _)) (Nat.two_pow_pos _)
    generalize (N * 2 ^ k) <<< (-(k : Int) - min p (-(k : Int))).toNat = A at this ⊢
    generalize sig <<< (p - min p (-(k : Int))).toNat = B
    omega
theorem order_high (n : Int) (N : Nat) (h : (N : Int) < n) (hb : n ≤ 9223372036854775807) (hN2 : N < 2 ^ 52) : double.order (floatOfInt .f64 n) (flN N) = some .gt := by
  by_cases h0 : n < 2 ^ 53
  · rw [show floatOfInt .f64 n = flN n.toNat by rw [← fl_of_int n.toNat (by omega), Int.toNat_of_nonneg (by omega)], order_fl _ N (by omega) (by omega), Nat.compare_eq_gt.2 (by omega)]
  · obtain ⟨sig, p, hs, hp, hpos, hr⟩ := read_any n (by omega) (by omega)
    have hp0 := hpos (by omega)
    obtain ⟨k, hk, e1⟩ := read_fl N (by omega)
    unfold Format.order
    rw [hr, e1, decide_eq_false (by omega : ¬ n < 0)]
    unfold Datum.order
    simp only
    congr 1
    refine Int.compare_eq_gt.2 ?_
    unfold signed
    simp only [Bool.false_eq_true, if_false]
    rw [show min p (-(k : Int)) = -(k : Int) by omega, show (-(k : Int) - -(k : Int)).toNat = 0 by omega, Nat.shiftLeft_zero]
    obtain ⟨j, hj⟩ : ∃ j : Nat, (p - -(k : Int)).toNat = k + j := ⟨p.toNat, by omega⟩
    rw [hj, Nat.shiftLeft_eq, Nat.pow_add]
    have h2 : N * 2 ^ k < sig * 2 ^ k := Nat.mul_lt_mul_of_pos_right (by omega) (Nat.two_pow_pos k)
    have h3 : sig * 2 ^ k * 1 ≤ sig * 2 ^ k * 2 ^ j := Nat.mul_le_mul_left _ (Nat.two_pow_pos j)
    have h4 : sig * (2 ^ k * 2 ^ j) = sig * 2 ^ k * 2 ^ j := (Nat.mul_assoc _ _ _).symm
    rw [h4]
    omega
theorem order_fl_int (n : Int) (N : Nat) (h0 : 0 ≤ n) (h1 : n < 2 ^ 53) (hN : N < 2 ^ 53) : double.order (floatOfInt .f64 n) (flN N) = some (compare n.toNat N) := by
  rw [show floatOfInt .f64 n = flN n.toNat by rw [← fl_of_int n.toNat (by omega), Int.toNat_of_nonneg h0]]
  exact order_fl _ _ (by omega) hN
theorem trunc_fl (n : Nat) (h : n < 2 ^ 53) : Go.Extern.MathFloor.toIntegral "math.archTrunc" .zero #[.float .f64 (flN n)] = pure (.float .f64 (flN n)) := by
  obtain ⟨k, hk, e1⟩ := read_fl n h
  have e2 : FloatKind.f64.decode (flN n) = .number false (n * 2 ^ k) (-(k : Int)) := e1
  have e3 : Toward.zero.cut false ((n * 2 ^ k) <<< (-(k : Int)).toNat) (-(-(k : Int))).toNat = n := by
    rw [show (-(k : Int)).toNat = 0 by omega, Int.neg_neg, Int.toNat_natCast, Nat.shiftLeft_zero]
    by_cases h0 : n = 0
    · subst h0
      exact cut_of .zero (.inr rfl) false _ k 0 (1 <<< min k ((0 * 2 ^ k).log2 + 2)) rfl (by rw [Nat.one_shiftLeft]; exact Nat.two_pow_pos _) (by omega)
    · exact cut_of .zero (.inr rfl) false _ k n (2 ^ k) (by rw [log_shift n k h0, show min k (n.log2 + k + 2) = k by omega, Nat.one_shiftLeft]) (Nat.two_pow_pos k) rfl
  have e4 : FloatKind.f64.encode ((FloatKind.f64.decode (flN n)).integral .zero) = flN n := by
    rw [e2]
    unfold Datum.integral
    simp only [e3]
    by_cases h0 : n = 0
    · subst h0; exact nearest_zero 0
    · have := nearest_int n 0 h0 h (by omega)
      show double.nearest false n 0 = flN n
      simpa using this
  rw [e2] at e4
  show (match FloatKind.f64.decode (flN n) with | .nan _ _ => _ | d => pure (Value.float .f64 (FloatKind.f64.encode (d.integral .zero)))) = _
  rw [e2]
  dsimp only
  rw [e4]
end Go.Proofs.YtggembknccbpnaaGreat
