/- Package konst: what becomes of two numbers. -/
import Derived.Test.YtpnohljhpoildaaKnC
import Derived.Laws.BitsLemmas
import Derived.Laws.Shifts
import Derived.Laws.ShiftsVar
namespace Go.Proofs.Ytpnohljhpoildaa
open Go.RowKit
set_option maxHeartbeats 1000000
set_option maxRecDepth 100000
set_option linter.unusedVariables false
set_option linter.unusedSimpArgs false

def w16 (x : Int) : Prop := 0 ≤ x ∧ x ≤ 65535
theorem w16n {x : Int} (h : w16 x) : ∃ a : Nat, x = (a : Int) ∧ a < 2 ^ 16 := ⟨x.toNat, by have := h.1; omega, by have := h.1; have := h.2; omega⟩
theorem i64_16 (n : Int) (h0 : 0 ≤ n) (h1 : n < 2 ^ 16) : IntKind.i64.wrap n = n := by rw [IntKind.wrap_i64]; omega
theorem or64 {x y : Int} (hx : w16 x) (hy : w16 y) : bits .or .i64 x y = orN x y := by
  obtain ⟨a, rfl, ha⟩ := w16n hx
  obtain ⟨b, rfl, hb⟩ := w16n hy
  exact (bits_nat .i64 16 (by decide) i64_16 a b ha hb).2
theorem and64 {x y : Int} (hx : w16 x) (hy : w16 y) : bits .and .i64 x y = andN x y := by
  obtain ⟨a, rfl, ha⟩ := w16n hx
  obtain ⟨b, rfl, hb⟩ := w16n hy
  exact (bits_nat .i64 16 (by decide) i64_16 a b ha hb).1
theorem xor64 {x y : Int} (hx : w16 x) (hy : w16 y) : bits .xor .i64 x y = xorN x y := by
  obtain ⟨a, rfl, ha⟩ := w16n hx
  obtain ⟨b, rfl, hb⟩ := w16n hy
  have h1 : a % 2 ^ IntKind.i64.bits = a := Nat.mod_eq_of_lt (Nat.lt_of_lt_of_le ha (by decide))
  have h2 : b % 2 ^ IntKind.i64.bits = b := Nat.mod_eq_of_lt (Nat.lt_of_lt_of_le hb (by decide))
  simp only [bits, BitVec.ofInt_natCast, BitVec.toNat_xor, BitVec.toNat_ofNat, h1, h2]
  have := Nat.xor_lt_two_pow ha hb
  exact i64_16 _ (by omega) (by omega)
theorem not_bit (n B : Nat) (hB : B < 2 ^ n) (i : Nat) : (2 ^ n - 1 - B).testBit i = (decide (i < n) && !B.testBit i) := by
  have h := Nat.testBit_two_pow_sub_succ hB i
  rw [show 2 ^ n - 1 - B = 2 ^ n - (B + 1) by omega]
  exact h
theorem off_nat (A B : Nat) (hA : A < 2 ^ 16) (hB : B < 2 ^ 16) : A &&& (2 ^ 64 - 1 - B) = A &&& (65535 - B) := by
  apply Nat.eq_of_testBit_eq
  intro i
  have h1 := not_bit 64 B (Nat.lt_of_lt_of_le hB (by decide)) i
  have h2 := not_bit 16 B hB i
  simp only [Nat.testBit_and]
  rw [h1, show (65535 - B) = 2 ^ 16 - 1 - B from rfl, h2]
  by_cases hi : i < 16
  · simp [hi, show i < 64 by omega]
  · rw [Nat.testBit_lt_two_pow (Nat.lt_of_lt_of_le hA (Nat.pow_le_pow_right (by omega) (by omega : 16 ≤ i)))]; rfl
theorem off64 {x y : Int} (hx : w16 x) (hy : w16 y) : bits .andNot .i64 x y = offN x y := by
  obtain ⟨a, rfl, ha⟩ := w16n hx
  obtain ⟨b, rfl, hb⟩ := w16n hy
  have h1 : a % 2 ^ IntKind.i64.bits = a := Nat.mod_eq_of_lt (Nat.lt_of_lt_of_le ha (by decide))
  have h2 : b % 2 ^ IntKind.i64.bits = b := Nat.mod_eq_of_lt (Nat.lt_of_lt_of_le hb (by decide))
  simp only [bits, BitVec.ofInt_natCast, BitVec.toNat_and, BitVec.toNat_not, BitVec.toNat_ofNat, h1, h2]
  rw [show IntKind.i64.bits = 64 from rfl, off_nat a b ha hb]
  have := Nat.and_lt_two_pow (x := a) (y := 65535 - b) (n := 16) (by omega)
  exact i64_16 _ (by omega) (by omega)
theorem or_w {x y : Int} (hx : w16 x) (hy : w16 y) : w16 (orN x y) := by
  obtain ⟨a, rfl, ha⟩ := w16n hx
  obtain ⟨b, rfl, hb⟩ := w16n hy
  have := Nat.or_lt_two_pow ha hb
  unfold orN w16; simp only [Int.toNat_natCast]; omega
theorem and_w {x y : Int} (hx : w16 x) (hy : w16 y) : w16 (andN x y) := by
  obtain ⟨a, rfl, ha⟩ := w16n hx
  obtain ⟨b, rfl, hb⟩ := w16n hy
  have := Nat.and_lt_two_pow (x := a) (y := b) (n := 16) hb
  unfold andN w16; simp only [Int.toNat_natCast]; omega
theorem xor_w {x y : Int} (hx : w16 x) (hy : w16 y) : w16 (xorN x y) := by
  obtain ⟨a, rfl, ha⟩ := w16n hx
  obtain ⟨b, rfl, hb⟩ := w16n hy
  have := Nat.xor_lt_two_pow ha hb
  unfold xorN w16; simp only [Int.toNat_natCast]; omega
theorem off_w {x y : Int} (hx : w16 x) (hy : w16 y) : w16 (offN x y) := by
  obtain ⟨a, rfl, ha⟩ := w16n hx
  have := Nat.and_le_left (n := a) (m := 65535 - y.toNat)
  unfold offN w16; simp only [Int.toNat_natCast]; omega
theorem u16_w {x : Int} (h : w16 x) : IntKind.u16.wrap x = x := by have := h.1; have := h.2; rw [IntKind.wrap_u16]; omega
theorem inW_bd {n : Int} (h : inW n = true) : -32768 ≤ n ∧ n ≤ 65535 := by unfold inW at h; simpa using h
theorem mul_bd {x y : Int} (hx : -32768 ≤ x ∧ x ≤ 65535) (hy : -32768 ≤ y ∧ y ≤ 65535) : -4294967296 ≤ x * y ∧ x * y ≤ 4294967296 := by
  have h : (x * y).natAbs ≤ 65536 * 65536 := by
    rw [Int.natAbs_mul]
    exact Nat.mul_le_mul (by omega) (by omega)
  omega
theorem tdiv_bd {x y : Int} (hx : -32768 ≤ x ∧ x ≤ 65535) : -65536 ≤ x.tdiv y ∧ x.tdiv y ≤ 65536 := by
  have h : (x.tdiv y).natAbs ≤ x.natAbs := by rw [Int.natAbs_tdiv]; exact Nat.div_le_self _ _
  omega
theorem tmod_bd {x y : Int} (hx : -32768 ≤ x ∧ x ≤ 65535) : -65536 ≤ x.tmod y ∧ x.tmod y ≤ 65536 := by
  have h : (x.tmod y).natAbs ≤ x.natAbs := by rw [Int.natAbs_tmod]; exact Nat.mod_le _ _
  omega
/-- What a function of a table answers. -/
theorem ans_of {p q : PV × Int} (h : p = q) : Ending.returned (.tuple #[p.1.val, .int .i64 p.2]) = Ending.returned (.tuple #[q.1.val, .int .i64 q.2]) := by rw [h]
def Ans (p : PV × Int) (w : World) (e : Ending) (w' : World) : Prop := e = .returned (.tuple #[p.1.val, .int .i64 p.2]) ∧ Bl w w'
theorem bit_q (q : Nat) (hq : q < 2 ^ 16) : (bits .and .i64 (q : Int) 1 == 1) = decide (q % 2 = 1) := by
  have h := bits_mask .i64 16 (by decide) i64_16 1 (by decide) (q : Int) (by omega) (by omega)
  have h : bits .and .i64 (q : Int) 1 = (q : Int) % 2 := h
  rw [h]
  by_cases h1 : q % 2 = 1
  · rw [decide_eq_true h1, beq_iff_eq]; omega
  · rw [decide_eq_false h1, beq_eq_false_iff_ne]; omega
theorem sh_bit (a m : Nat) (ha : a < 2 ^ 16) : (bits .and .i64 ((a : Int) / 2 ^ min m 64) 1 == 1) = a.testBit m := by
  have hq : (a : Int) / 2 ^ min m 64 = ((a / 2 ^ min m 64 : Nat) : Int) := by norm_cast
  rw [hq, bit_q _ (Nat.lt_of_le_of_lt (Nat.div_le_self _ _) ha), Nat.testBit_eq_decide_div_mod_eq]
  have e : a / 2 ^ min m 64 = a / 2 ^ m := by
    by_cases hm : m ≤ 64
    · rw [Nat.min_eq_left hm]
    · rw [Nat.div_eq_of_lt (Nat.lt_of_lt_of_le ha (Nat.pow_le_pow_right (by omega) (by omega))), Nat.div_eq_of_lt (Nat.lt_of_lt_of_le ha (Nat.pow_le_pow_right (by omega) (by omega)))]
  rw [e]
theorem c_questions_1 (x y : Int)  (w : World) : Calls Try.prog 54 #[.int .i64 x, .int .i64 y] w (Ans (tru (x == y)) w) := by
  go_enter Try.func54, Try.ntmps54
  go_wp2_with fail
  refine (truth_any (x == y) _).mono ?_
  rintro e w2 ⟨rfl, rfl⟩
  go_wp2_with fail
  go_ret2
  exact ⟨rfl, Below.refl _ _⟩
theorem c_questions_2 (x y : Int)  (w : World) : Calls Try.prog 55 #[.int .i64 x, .int .i64 y] w (Ans (tru (x != y)) w) := by
  go_enter Try.func55, Try.ntmps55
  go_wp2_with fail
  refine (truth_any (x != y) _).mono ?_
  rintro e w2 ⟨rfl, rfl⟩
  go_wp2_with fail
  go_ret2
  exact ⟨rfl, Below.refl _ _⟩
theorem c_questions_3 (x y : Int)  (w : World) : Calls Try.prog 56 #[.int .i64 x, .int .i64 y] w (Ans (tru (decide (x < y))) w) := by
  go_enter Try.func56, Try.ntmps56
  go_wp2_with fail
  refine (truth_any (decide (x < y)) _).mono ?_
  rintro e w2 ⟨rfl, rfl⟩
  go_wp2_with fail
  go_ret2
  exact ⟨rfl, Below.refl _ _⟩
theorem c_questions_4 (x y : Int)  (w : World) : Calls Try.prog 57 #[.int .i64 x, .int .i64 y] w (Ans (tru (decide (x ≤ y))) w) := by
  go_enter Try.func57, Try.ntmps57
  go_wp2_with fail
  refine (truth_any (decide (x ≤ y)) _).mono ?_
  rintro e w2 ⟨rfl, rfl⟩
  go_wp2_with fail
  go_ret2
  exact ⟨rfl, Below.refl _ _⟩
theorem c_questions_5 (x y : Int)  (w : World) : Calls Try.prog 58 #[.int .i64 x, .int .i64 y] w (Ans (tru (decide (y < x))) w) := by
  go_enter Try.func58, Try.ntmps58
  go_wp2_with fail
  refine (truth_any (decide (y < x)) _).mono ?_
  rintro e w2 ⟨rfl, rfl⟩
  go_wp2_with fail
  go_ret2
  exact ⟨rfl, Below.refl _ _⟩
theorem c_questions_6 (x y : Int)  (w : World) : Calls Try.prog 59 #[.int .i64 x, .int .i64 y] w (Ans (tru (decide (y ≤ x))) w) := by
  go_enter Try.func59, Try.ntmps59
  go_wp2_with fail
  refine (truth_any (decide (y ≤ x)) _).mono ?_
  rintro e w2 ⟨rfl, rfl⟩
  go_wp2_with fail
  go_ret2
  exact ⟨rfl, Below.refl _ _⟩
theorem c_equals_1 (x y : Int)  (w : World) : Calls Try.prog 75 #[.int .i64 x, .int .i64 y] w (Ans (tru (x == y)) w) := by
  go_enter Try.func75, Try.ntmps75
  go_wp2_with fail
  refine (truth_any (x == y) _).mono ?_
  rintro e w2 ⟨rfl, rfl⟩
  go_wp2_with fail
  go_ret2
  exact ⟨rfl, Below.refl _ _⟩
theorem c_equals_2 (x y : Int)  (w : World) : Calls Try.prog 76 #[.int .i64 x, .int .i64 y] w (Ans (tru (x != y)) w) := by
  go_enter Try.func76, Try.ntmps76
  go_wp2_with fail
  refine (truth_any (x != y) _).mono ?_
  rintro e w2 ⟨rfl, rfl⟩
  go_wp2_with fail
  go_ret2
  exact ⟨rfl, Below.refl _ _⟩
theorem c_wholes_1 (x y : Int) (hx : inW x = true) (hy : inW y = true) (w : World) : Calls Try.prog 60 #[.int .i64 x, .int .i64 y] w (Ans (fitP (x + y)) w) := by
  have h1 := inW_bd hx
  have h2 := inW_bd hy
  have h3 := mul_bd h1 h2
  obtain ⟨z, hz⟩ : ∃ z, x + y = z := ⟨_, rfl⟩
  have hw : wrap64 (x + y) = z := by rw [IntWalk.wrap64_in _ (by omega), hz]
  have HZ := Lib.hid hz
  clear h1 h2 h3 hx hy hz
  go_enter Try.func60, Try.ntmps60
  go_wp2_with fail
  refine (fit_any z _).mono ?_
  rintro e w2 ⟨rfl, rfl⟩
  go_wp2_with fail
  go_ret2
  exact ⟨ans_of (p := fitP z) (by rw [HZ.out]), Below.refl _ _⟩
theorem c_wholes_2 (x y : Int) (hx : inW x = true) (hy : inW y = true) (w : World) : Calls Try.prog 62 #[.int .i64 x, .int .i64 y] w (Ans (fitP (x - y)) w) := by
  have h1 := inW_bd hx
  have h2 := inW_bd hy
  have h3 := mul_bd h1 h2
  obtain ⟨z, hz⟩ : ∃ z, x - y = z := ⟨_, rfl⟩
  have hw : wrap64 (x - y) = z := by rw [IntWalk.wrap64_in _ (by omega), hz]
  have HZ := Lib.hid hz
  clear h1 h2 h3 hx hy hz
  go_enter Try.func62, Try.ntmps62
  go_wp2_with fail
  refine (fit_any z _).mono ?_
  rintro e w2 ⟨rfl, rfl⟩
  go_wp2_with fail
  go_ret2
  exact ⟨ans_of (p := fitP z) (by rw [HZ.out]), Below.refl _ _⟩
theorem c_wholes_3 (x y : Int) (hx : inW x = true) (hy : inW y = true) (w : World) : Calls Try.prog 63 #[.int .i64 x, .int .i64 y] w (Ans (fitP (x * y)) w) := by
  have h1 := inW_bd hx
  have h2 := inW_bd hy
  have h3 := mul_bd h1 h2
  obtain ⟨z, hz⟩ : ∃ z, x * y = z := ⟨_, rfl⟩
  have hw : wrap64 (x * y) = z := by rw [IntWalk.wrap64_in _ (by omega), hz]
  have HZ := Lib.hid hz
  clear h1 h2 h3 hx hy hz
  go_enter Try.func63, Try.ntmps63
  go_wp2_with fail
  refine (fit_any z _).mono ?_
  rintro e w2 ⟨rfl, rfl⟩
  go_wp2_with fail
  go_ret2
  exact ⟨ans_of (p := fitP z) (by rw [HZ.out]), Below.refl _ _⟩
theorem c_div (x y : Int) (hy : ¬ y = 0) (z : Int) (hz : wrap64 (x.tdiv y) = z) (w : World) : Calls Try.prog 65 #[.int .i64 x, .int .i64 y] w fun e w' => e = .returned (.int .i64 z) ∧ w' = w := by
  have HZ := Lib.hid hz
  clear hz
  go_enter Try.func65, Try.ntmps65
  go_wp2_with fail
  go_ret
  exact ⟨congrArg (fun z => Ending.returned (Value.int .i64 z)) HZ.out, rfl⟩
theorem c_mod (x y : Int) (hy : ¬ y = 0) (z : Int) (hz : x.tmod y = z) (w : World) : Calls Try.prog 66 #[.int .i64 x, .int .i64 y] w fun e w' => e = .returned (.int .i64 z) ∧ w' = w := by
  have HZ := Lib.hid hz
  clear hz
  go_enter Try.func66, Try.ntmps66
  go_wp2_with fail
  go_ret
  exact ⟨congrArg (fun z => Ending.returned (Value.int .i64 z)) HZ.out, rfl⟩
theorem over_div (x y : Int) (hx : inW x = true) (hy : inW y = true) (b : Nat) (w : World) (hc : w.cell? ⟨b, 0, none⟩ = some (.func (.func 65) #[] #[])) : Calls Try.prog 78 #[.int .i64 x, .int .i64 y, .pointer (some ⟨b, 0, none⟩)] w (Ans (ovr (fun x y => x.tdiv y) x y) w) := by
  have h1 := inW_bd hx
  have h3 := tdiv_bd (y := y) h1
  obtain ⟨z, hz⟩ : ∃ z, x.tdiv y = z := ⟨_, rfl⟩
  have HZ := Lib.hid hz
  by_cases hy0 : y = 0
  · subst hy0
    clear h1 h3 hz
    go_enter Try.func78, Try.ntmps78
    go_wp2_with fail
    go_ret2
    exact ⟨rfl, Below.refl _ _⟩
  · have hy1 : (y == 0) = false := beq_eq_false_iff_ne.2 hy0
    have HD := fun w => c_div x y hy0 z (by rw [IntWalk.wrap64_in _ (by omega)]; exact hz) w
    have HY := Lib.hid hy0
    clear h1 h3 hz hx hy hy0
    go_enter Try.func78, Try.ntmps78
    go_wp2_with fail
    refine (HD _).mono ?_
    rintro e w2 ⟨rfl, rfl⟩
    go_wp2_with fail
    refine (fit_any z _).mono ?_
    rintro e w2 ⟨rfl, rfl⟩
    go_wp2_with fail
    go_ret2
    exact ⟨ans_of (p := fitP z) (by unfold ovr; rw [if_neg HY.out]; show fitP z = fitP (x.tdiv y); rw [HZ.out]), Below.refl _ _⟩
theorem over_mod (x y : Int) (hx : inW x = true) (hy : inW y = true) (b : Nat) (w : World) (hc : w.cell? ⟨b, 0, none⟩ = some (.func (.func 66) #[] #[])) : Calls Try.prog 78 #[.int .i64 x, .int .i64 y, .pointer (some ⟨b, 0, none⟩)] w (Ans (ovr (fun x y => x.tmod y) x y) w) := by
  have h1 := inW_bd hx
  have h3 := tmod_bd (y := y) h1
  obtain ⟨z, hz⟩ : ∃ z, x.tmod y = z := ⟨_, rfl⟩
  have HZ := Lib.hid hz
  by_cases hy0 : y = 0
  · subst hy0
    clear h1 h3 hz
    go_enter Try.func78, Try.ntmps78
    go_wp2_with fail
    go_ret2
    exact ⟨rfl, Below.refl _ _⟩
  · have hy1 : (y == 0) = false := beq_eq_false_iff_ne.2 hy0
    have HD := fun w => c_mod x y hy0 z (hz) w
    have HY := Lib.hid hy0
    clear h1 h3 hz hx hy hy0
    go_enter Try.func78, Try.ntmps78
    go_wp2_with fail
    refine (HD _).mono ?_
    rintro e w2 ⟨rfl, rfl⟩
    go_wp2_with fail
    refine (fit_any z _).mono ?_
    rintro e w2 ⟨rfl, rfl⟩
    go_wp2_with fail
    go_ret2
    exact ⟨ans_of (p := fitP z) (by unfold ovr; rw [if_neg HY.out]; show fitP z = fitP (x.tmod y); rw [HZ.out]), Below.refl _ _⟩
theorem c_sets_1 (x y : Int) (hx : w16 x) (hy : w16 y) (w : World) : Calls Try.prog 69 #[.int .i64 x, .int .i64 y] w (Ans (.bits (orN x y), 0) w) := by
  obtain ⟨z, hz⟩ : ∃ z, orN x y = z := ⟨_, rfl⟩
  have h1 : bits .or .i64 x y = z := (or64 hx hy).trans hz
  have h2 : IntKind.u16.wrap z = z := by rw [← hz]; exact u16_w (or_w hx hy)
  have HZ := Lib.hid hz
  clear hz hx hy
  go_enter Try.func69, Try.ntmps69
  go_wp2_with fail
  go_ret2
  exact ⟨by rw [HZ.out]; rfl, Below.refl _ _⟩
theorem c_sets_2 (x y : Int) (hx : w16 x) (hy : w16 y) (w : World) : Calls Try.prog 70 #[.int .i64 x, .int .i64 y] w (Ans (.bits (offN x y), 0) w) := by
  obtain ⟨z, hz⟩ : ∃ z, offN x y = z := ⟨_, rfl⟩
  have h1 : bits .andNot .i64 x y = z := (off64 hx hy).trans hz
  have h2 : IntKind.u16.wrap z = z := by rw [← hz]; exact u16_w (off_w hx hy)
  have HZ := Lib.hid hz
  clear hz hx hy
  go_enter Try.func70, Try.ntmps70
  go_wp2_with fail
  go_ret2
  exact ⟨by rw [HZ.out]; rfl, Below.refl _ _⟩
theorem c_sets_3 (x y : Int) (hx : w16 x) (hy : w16 y) (w : World) : Calls Try.prog 71 #[.int .i64 x, .int .i64 y] w (Ans (.bits (andN x y), 0) w) := by
  obtain ⟨z, hz⟩ : ∃ z, andN x y = z := ⟨_, rfl⟩
  have h1 : bits .and .i64 x y = z := (and64 hx hy).trans hz
  have h2 : IntKind.u16.wrap z = z := by rw [← hz]; exact u16_w (and_w hx hy)
  have HZ := Lib.hid hz
  clear hz hx hy
  go_enter Try.func71, Try.ntmps71
  go_wp2_with fail
  go_ret2
  exact ⟨by rw [HZ.out]; rfl, Below.refl _ _⟩
theorem c_sets_4 (x y : Int) (hx : w16 x) (hy : w16 y) (w : World) : Calls Try.prog 72 #[.int .i64 x, .int .i64 y] w (Ans (.bits (xorN x y), 0) w) := by
  obtain ⟨z, hz⟩ : ∃ z, xorN x y = z := ⟨_, rfl⟩
  have h1 : bits .xor .i64 x y = z := (xor64 hx hy).trans hz
  have h2 : IntKind.u16.wrap z = z := by rw [← hz]; exact u16_w (xor_w hx hy)
  have HZ := Lib.hid hz
  clear hz hx hy
  go_enter Try.func72, Try.ntmps72
  go_wp2_with fail
  go_ret2
  exact ⟨by rw [HZ.out]; rfl, Below.refl _ _⟩
theorem c_sets_5 (x y : Int) (hx : w16 x) (hy : w16 y) (w : World) : Calls Try.prog 73 #[.int .i64 x, .int .i64 y] w (Ans (tru (offN x y == 0)) w) := by
  obtain ⟨z, hz⟩ : ∃ z, offN x y = z := ⟨_, rfl⟩
  have h1 : bits .andNot .i64 x y = z := (off64 hx hy).trans hz
  have HZ := Lib.hid hz
  clear hz hx hy
  go_enter Try.func73, Try.ntmps73
  go_wp2_with fail
  refine (truth_any (z == 0) _).mono ?_
  rintro e w2 ⟨rfl, rfl⟩
  go_wp2_with fail
  go_ret2
  exact ⟨ans_of (p := tru (z == 0)) (by rw [HZ.out]), Below.refl _ _⟩
theorem c_sets_6 (x y : Int) (hx : w16 x) (hy : w16 y) (w : World) : Calls Try.prog 74 #[.int .i64 x, .int .i64 y] w (Ans (tru (offN y x == 0)) w) := by
  obtain ⟨z, hz⟩ : ∃ z, offN y x = z := ⟨_, rfl⟩
  have h1 : bits .andNot .i64 y x = z := (off64 hy hx).trans hz
  have HZ := Lib.hid hz
  clear hz hx hy
  go_enter Try.func74, Try.ntmps74
  go_wp2_with fail
  refine (truth_any (z == 0) _).mono ?_
  rintro e w2 ⟨rfl, rfl⟩
  go_wp2_with fail
  go_ret2
  exact ⟨ans_of (p := tru (z == 0)) (by rw [HZ.out]), Below.refl _ _⟩
theorem c_truths_1 (x y : Int) (w : World) : Calls Try.prog 67 #[.int .i64 x, .int .i64 y] w (Ans (tru (x == 1 && y == 1)) w) := by
  cases h1 : (x == 1) <;> cases h2 : (y == 1)
  all_goals
    go_enter Try.func67, Try.ntmps67
    go_wp2_with fail
    first | refine (truth_any true _).mono ?_ | refine (truth_any false _).mono ?_
    rintro e w2 ⟨rfl, rfl⟩
    go_wp2_with fail
    go_ret2
    exact ⟨rfl, Below.refl _ _⟩
theorem c_truths_2 (x y : Int) (w : World) : Calls Try.prog 68 #[.int .i64 x, .int .i64 y] w (Ans (tru (x == 1 || y == 1)) w) := by
  cases h1 : (x == 1) <;> cases h2 : (y == 1)
  all_goals
    go_enter Try.func68, Try.ntmps68
    go_wp2_with fail
    first | refine (truth_any true _).mono ?_ | refine (truth_any false _).mono ?_
    rintro e w2 ⟨rfl, rfl⟩
    go_wp2_with fail
    go_ret2
    exact ⟨rfl, Below.refl _ _⟩
theorem c_members_out (x y : Int) (hx : x < 0) (w : World) : Calls Try.prog 77 #[.int .i64 x, .int .i64 y] w (Ans (tru (inN x y)) w) := by
  have H := Lib.hid (show inN x y = false from by unfold inN; rw [decide_eq_false (by omega)]; rfl)
  go_enter Try.func77, Try.ntmps77
  go_wp2_with fail
  refine (truth_any false _).mono ?_
  rintro e w2 ⟨rfl, rfl⟩
  go_wp2_with fail
  go_ret2
  exact ⟨ans_of (p := tru false) (by rw [H.out]), Below.refl _ _⟩
theorem c_members_in (x y : Int) (hx : 0 ≤ x) (hy : w16 y) (w : World) : Calls Try.prog 77 #[.int .i64 x, .int .i64 y] w (Ans (tru (inN x y)) w) := by
  have hs : (bits .and .i64 (y / 2 ^ min x.toNat 64) 1 == 1) = inN x y := by
    obtain ⟨a, rfl, ha⟩ := w16n hy
    rw [sh_bit a x.toNat ha]
    unfold inN
    rw [decide_eq_true hx]; rfl
  obtain ⟨z, hz⟩ : ∃ z, inN x y = z := ⟨_, rfl⟩
  rw [hz] at hs
  have HZ := Lib.hid hz
  clear hz hy
  go_enter Try.func77, Try.ntmps77
  go_wp2_with fail
  refine (truth_any z _).mono ?_
  rintro e w2 ⟨rfl, rfl⟩
  go_wp2_with fail
  go_ret2
  exact ⟨ans_of (p := tru z) (by rw [HZ.out]), Below.refl _ _⟩
end Go.Proofs.Ytpnohljhpoildaa
