/- What becomes of two words by an op, as a function on integers; plain facts on it. No program stands in here. -/
import Derived.Laws.BitsAllLaws
namespace Go.Proofs.Ytcecjjjehhjldaa
open Go

/-- A word with its sign. -/
def sg (a : Int) : Int := if a < 32768 then a else a - 65536
/-- A number with a sign as a word, and the trap. -/
def fS (n : Int) : Int × Int := if -32768 ≤ n ∧ n ≤ 32767 then (n % 65536, 0) else (0, 1)
/-- A number without a sign as a word, and the trap. -/
def fU (n : Int) : Int × Int := if 0 ≤ n ∧ n ≤ 65535 then (n, 0) else (0, 1)
/-- The answer to a question. -/
def ask (b : Bool) : Int × Int := (if b then 1 else 0, 0)
/-- The set of all from a to b, as a number. -/
def rowN (a b : Nat) : Nat := if a ≤ b then 2 ^ (b + 1) - 2 ^ a else 0
def rowP (a b : Int) : Int × Int := if 15 < a ∨ 15 < b then (0, 2) else ((rowN a.toNat b.toNat : Nat), 0)
def bitAt (a b : Int) : Bool := decide (a ≤ 15) && (b.toNat.testBit a.toNat)

/-- What becomes of a and b by op, and the trap. -/
def D (op a b : Int) : Int × Int :=
  if op = 1 then fS (sg a + sg b)
  else if op = 2 then fS (sg a - sg b)
  else if op = 3 then fS (sg a * sg b)
  else if op = 4 then (if b = 0 then (0, 4) else fS ((sg a).tdiv (sg b)))
  else if op = 5 then (if b = 0 then (0, 4) else fS ((sg a).tmod (sg b)))
  else if op = 6 then fS (-(sg a))
  else if op = 7 then fS (if sg a < 0 then -(sg a) else sg a)
  else if op = 8 then fU (a + b)
  else if op = 9 then fU (a - b)
  else if op = 10 then fU (a * b)
  else if op = 11 then (if b = 0 then (0, 4) else (a / b, 0))
  else if op = 12 then (if b = 0 then (0, 4) else (a % b, 0))
  else if op = 13 then ask (decide (a = b))
  else if op = 14 then ask (decide (a ≠ b))
  else if op = 15 then ask (decide (sg a < sg b))
  else if op = 16 then ask (decide (sg a ≤ sg b))
  else if op = 17 then ask (decide (sg b < sg a))
  else if op = 18 then ask (decide (sg b ≤ sg a))
  else if op = 19 then ask (decide (a < b))
  else if op = 20 then ask (decide (a ≤ b))
  else if op = 21 then ask (decide (b < a))
  else if op = 22 then ask (decide (b ≤ a))
  else if op = 23 then ask (decide (a = 0))
  else if op = 24 then ((a.toNat ||| b.toNat : Nat), 0)
  else if op = 25 then ((a.toNat &&& (65535 - b.toNat) : Nat), 0)
  else if op = 26 then ((a.toNat &&& b.toNat : Nat), 0)
  else if op = 27 then ((a.toNat ^^^ b.toNat : Nat), 0)
  else if op = 28 then ask (bitAt a b)
  else if op = 29 then ask (decide (a.toNat &&& (65535 - b.toNat) = 0))
  else if op = 30 then rowP a a
  else if op = 31 then rowP a b
  else (0, 12)

theorem sg_bd (a : Int) (h0 : 0 ≤ a) (h1 : a ≤ 65535) : -32768 ≤ sg a ∧ sg a ≤ 32767 := by unfold sg; split <;> omega
theorem sg_zero (a : Int) (h0 : 0 ≤ a) (h1 : a ≤ 65535) (h : a ≠ 0) : sg a ≠ 0 := by unfold sg; split <;> omega
theorem wrap_i16 (n : Int) : IntKind.i16.wrap n = if 32768 ≤ n % 65536 then n % 65536 - 65536 else n % 65536 := by
  simp [IntKind.wrap, IntKind.bits, IntKind.signed]
theorem wrap_i16_sg (a : Int) (h0 : 0 ≤ a) (h1 : a ≤ 65535) : IntKind.i16.wrap a = sg a := by
  rw [wrap_i16]; unfold sg; split <;> split <;> omega
theorem wrap_i16_in (n : Int) (h0 : -32768 ≤ n) (h1 : n ≤ 32767) : IntKind.i16.wrap n = n := by
  rw [wrap_i16]; split <;> omega
theorem wrap_i16_bd (n : Int) : -32768 ≤ IntKind.i16.wrap n ∧ IntKind.i16.wrap n ≤ 32767 := by
  rw [wrap_i16]; split <;> omega
theorem mul_bd (x y : Int) (hx0 : -32768 ≤ x) (hx1 : x ≤ 32768) (hy0 : -32768 ≤ y) (hy1 : y ≤ 32768) : -1073741824 ≤ x * y ∧ x * y ≤ 1073741824 := by
  have hx : x.natAbs ≤ 32768 := by omega
  have hy : y.natAbs ≤ 32768 := by omega
  have h := Nat.mul_le_mul hx hy
  rw [← Int.natAbs_mul] at h
  omega
theorem mul_bdU (x y : Int) (hx0 : 0 ≤ x) (hx1 : x ≤ 65535) (hy0 : 0 ≤ y) (hy1 : y ≤ 65535) : 0 ≤ x * y ∧ x * y ≤ 4294836225 := by
  refine ⟨Int.mul_nonneg hx0 hy0, ?_⟩
  have hx : x.natAbs ≤ 65535 := by omega
  have hy : y.natAbs ≤ 65535 := by omega
  have h := Nat.mul_le_mul hx hy
  rw [← Int.natAbs_mul] at h
  omega
theorem tdiv_bd (x y : Int) (hx0 : -32768 ≤ x) (hx1 : x ≤ 32767) : -32768 ≤ x.tdiv y ∧ x.tdiv y ≤ 32768 := by
  have h : (x.tdiv y).natAbs = x.natAbs / y.natAbs := Int.natAbs_tdiv x y
  have h2 : x.natAbs / y.natAbs ≤ x.natAbs := Nat.div_le_self _ _
  omega
theorem tmod_bd (x y : Int) (hx0 : -32768 ≤ x) (hx1 : x ≤ 32767) : -32768 ≤ x.tmod y ∧ x.tmod y ≤ 32768 := by
  have h : (x.tmod y).natAbs = x.natAbs % y.natAbs := Int.natAbs_tmod x y
  have h2 : x.natAbs % y.natAbs ≤ x.natAbs := Nat.mod_le _ _
  omega
theorem shr_nat (B K : Nat) : ((B : Int) / 2 ^ K) = ((B >>> K : Nat) : Int) := by
  rw [Nat.shiftRight_eq_div_pow]; simp
theorem bit_of (b k : Int) (b0 : 0 ≤ b) (b1 : b ≤ 65535) (k0 : 0 ≤ k) : (bits .and .u16 (b / 2 ^ k.toNat) 1 == 1) = b.toNat.testBit k.toNat := by
  obtain ⟨B, rfl⟩ := Int.eq_ofNat_of_zero_le b0
  obtain ⟨K, rfl⟩ := Int.eq_ofNat_of_zero_le k0
  have h : B >>> K ≤ B := by rw [Nat.shiftRight_eq_div_pow]; exact Nat.div_le_self _ _
  simp only [Int.toNat_natCast]
  rw [shr_nat, show (1 : Int) = ((1 : Nat) : Int) from rfl, u16_and_nat _ 1 (by omega) (by omega), Nat.and_one_is_mod, Nat.testBit_eq_decide_div_mod_eq, Nat.shiftRight_eq_div_pow]
  by_cases hq : B / 2 ^ K % 2 = 1
  · simp [hq]
  · have : B / 2 ^ K % 2 = 0 := by omega
    simp [this]
theorem bit_mod (b k : Int) (b0 : 0 ≤ b) (k0 : 0 ≤ k) : (b / 2 ^ k.toNat % 2 == 1) = b.toNat.testBit k.toNat := by
  obtain ⟨B, rfl⟩ := Int.eq_ofNat_of_zero_le b0
  obtain ⟨K, rfl⟩ := Int.eq_ofNat_of_zero_le k0
  simp only [Int.toNat_natCast]
  rw [shr_nat, Nat.testBit_eq_decide_div_mod_eq, Nat.shiftRight_eq_div_pow]
  by_cases hq : B / 2 ^ K % 2 = 1
  · have : ((B / 2 ^ K : Nat) : Int) % 2 = 1 := by omega
    simp only [hq, this]; rfl
  · have : ((B / 2 ^ K : Nat) : Int) % 2 = 0 := by omega
    simp only [hq, this]; rfl
theorem eq_dec (a b : Int) : (a == b) = decide (a = b) := by by_cases h : a = b <;> simp [h]
theorem ne_dec (a b : Int) : (a != b) = decide (a ≠ b) := by by_cases h : a = b <;> simp [h]
theorem eq0_nat (n : Nat) : (((n : Nat) : Int) == 0) = decide (n = 0) := by by_cases h : n = 0 <;> simp [h]
/-- What the loop of 'row' has gathered when it stands at k. -/
def part (a k : Nat) : Nat := 2 ^ k - 2 ^ a
theorem part_all : ∀ k : Fin 16, ∀ a : Fin 16, a.val ≤ k.val → part a.val k.val ||| 2 ^ k.val = part a.val (k.val + 1) ∧ part a.val k.val < 65536 ∧ part a.val (k.val + 1) < 65536 := by decide +kernel
theorem part_or (a k : Nat) (hk : k ≤ 15) (ha : a ≤ k) : part a k ||| 2 ^ k = part a (k + 1) ∧ part a k < 65536 ∧ part a (k + 1) < 65536 :=
  part_all ⟨k, by omega⟩ ⟨a, by omega⟩ ha
theorem pow_lt (k : Nat) (hk : k ≤ 15) : 2 ^ k < 65536 := by
  have : 2 ^ k ≤ 2 ^ 15 := Nat.pow_le_pow_right (by omega) hk
  omega
theorem shl_one (k : Nat) (hk : k ≤ 15) : IntKind.u16.wrap (2 ^ k) = ((2 ^ k : Nat) : Int) := by
  have h := pow_lt k hk
  rw [IntKind.wrap_u16, show ((2 : Int) ^ k) = ((2 ^ k : Nat) : Int) by simp]
  generalize 2 ^ k = m at h
  omega
theorem part_step (a k : Nat) (hk : k ≤ 15) (ha : a ≤ k) : bits .or .u16 (part a k : Int) (IntKind.u16.wrap (2 ^ k)) = (part a (k + 1) : Int) := by
  obtain ⟨h1, h2, h3⟩ := part_or a k hk ha
  have h := pow_lt k hk
  rw [shl_one k hk, u16_or_nat _ _ h2 h, h1]
theorem part_self (a : Nat) : part a a = 0 := by unfold part; omega
theorem rowN_of (a b : Nat) (h : a ≤ b) : rowN a b = part a (b + 1) := by unfold rowN part; rw [if_pos h]
theorem rowN_none (a b : Nat) (h : b < a) : rowN a b = 0 := by unfold rowN; rw [if_neg (by omega)]
end Go.Proofs.Ytcecjjjehhjldaa
