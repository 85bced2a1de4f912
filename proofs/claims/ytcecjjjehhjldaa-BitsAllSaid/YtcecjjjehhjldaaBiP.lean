/- Sets of the numbers from 0 to 15 as natural numbers: plain facts on them. No program stands in here. -/
import Derived.Test.YtcecjjjehhjldaaWdP
namespace Go.Proofs.Ytcecjjjehhjldaa
set_option linter.unusedVariables false
open Go

/-- The set of all k below n that f takes. -/
def setOf (f : Nat → Bool) : Nat → Nat
  | 0 => 0
  | n + 1 => setOf f n + (if f n then 2 ^ n else 0)
theorem setOf_lt (f : Nat → Bool) : ∀ n, setOf f n < 2 ^ n
  | 0 => by simp [setOf]
  | n + 1 => by
    have h := setOf_lt f n
    have h2 : 2 ^ (n + 1) = 2 ^ n + 2 ^ n := by rw [Nat.pow_succ]; omega
    unfold setOf
    split <;> omega
theorem setOf_bit (f : Nat → Bool) : ∀ n k, (setOf f n).testBit k = (decide (k < n) && f k)
  | 0, k => by simp [setOf]
  | n + 1, k => by
    have h := setOf_lt f n
    have ih := setOf_bit f n k
    unfold setOf
    by_cases hf : f n = true
    · rw [if_pos hf, Nat.add_comm]
      by_cases hk : k = n
      · subst hk
        rw [Nat.testBit_two_pow_add_eq, Nat.testBit_lt_two_pow h]
        simp [hf]
      · by_cases hlt : k < n
        · rw [Nat.testBit_two_pow_add_gt hlt, ih]
          simp [hlt, show k < n + 1 by omega]
        · have hp : 2 ^ n + setOf f n < 2 ^ k := by
            have : 2 ^ (n + 1) ≤ 2 ^ k := Nat.pow_le_pow_right (by omega) (by omega)
            have h2 : 2 ^ (n + 1) = 2 ^ n + 2 ^ n := by rw [Nat.pow_succ]; omega
            omega
          rw [Nat.testBit_lt_two_pow hp]
          simp [show ¬ k < n + 1 by omega]
    · rw [if_neg hf, Nat.add_zero, ih]
      by_cases hk : k = n
      · subst hk
        simp at hf
        simp [hf]
      · simp [show (k < n + 1) = (k < n) by simp; omega]
/-- The set of i alone. -/
def oneN (i : Int) : Nat := if 0 ≤ i ∧ i < 16 then 2 ^ i.toNat else 0
theorem oneN_bit (i : Int) (k : Nat) : (oneN i).testBit k = (decide (k < 16) && decide (i = (k : Int))) := by
  unfold oneN
  split
  · rename_i h
    rw [Nat.testBit_two_pow]
    by_cases hk : i = (k : Int)
    · subst hk; simp at h ⊢; omega
    · rw [decide_eq_false hk, Bool.and_false, decide_eq_false]; omega
  · rename_i h
    rw [Nat.zero_testBit]
    by_cases hk : i = (k : Int)
    · subst hk; simp at h ⊢; omega
    · rw [decide_eq_false hk, Bool.and_false]
/-- The set of all numbers of l, with those of s. -/
def uniO (s : Nat) : List Int → Nat
  | [] => s
  | i :: l => uniO (s ||| oneN i) l
def uni (l : List Int) : Nat := uniO 0 l
theorem uniO_snoc (i : Int) : ∀ (l : List Int) (s : Nat), uniO s (l ++ [i]) = uniO s l ||| oneN i
  | [], s => rfl
  | j :: l, s => uniO_snoc i l (s ||| oneN j)
theorem uni_take (l : List Int) (k : Nat) (hk : k < l.length) : uni (l.take (k + 1)) = uni (l.take k) ||| oneN (l.getD k 0) := by
  rw [List.take_succ_eq_append_getElem hk, show l.getD k 0 = l[k] by simp [List.getD, hk]]
  exact uniO_snoc _ _ _
theorem uniO_bit (k : Nat) (hk : k < 16) : ∀ (l : List Int) (s : Nat), (uniO s l).testBit k = (s.testBit k || l.contains (k : Int))
  | [], s => by simp [uniO]
  | i :: l, s => by
    rw [uniO, uniO_bit k hk l, Nat.testBit_or, oneN_bit, decide_eq_true hk, Bool.true_and, List.contains_cons, Bool.or_assoc]
    congr 1; congr 1
    by_cases h : i = (k : Int)
    · simp [h]
    · simp [h, Ne.symm h]
theorem uni_bit (l : List Int) (k : Nat) (hk : k < 16) : (uni l).testBit k = l.contains (k : Int) := by
  rw [uni, uniO_bit k hk]; simp
theorem or16 (A B : Nat) (hA : A < 65536) (hB : B < 65536) : A ||| B < 65536 := Nat.or_lt_two_pow (n := 16) hA hB
theorem oneN_lt (i : Int) : oneN i < 65536 := by
  unfold oneN
  split
  · exact pow_lt _ (by omega)
  · omega
theorem uniO_lt : ∀ (l : List Int) (s : Nat), s < 65536 → uniO s l < 65536
  | [], s, h => h
  | i :: l, s, h => uniO_lt l _ (or16 _ _ h (oneN_lt i))
theorem uni_lt (l : List Int) : uni l < 65536 := uniO_lt l 0 (by omega)
/-- Two sets with the same elements are the same. -/
theorem set_ext (A B : Nat) (hA : A < 65536) (hB : B < 65536) (h : ∀ k, k < 16 → A.testBit k = B.testBit k) : A = B := by
  apply Nat.eq_of_testBit_eq
  intro k
  by_cases hk : k < 16
  · exact h k hk
  · have hp : 65536 ≤ 2 ^ k := Nat.pow_le_pow_right (n := 2) (by omega) (show 16 ≤ k by omega)
    rw [Nat.testBit_lt_two_pow (by omega), Nat.testBit_lt_two_pow (by omega)]
theorem setOf_lt16 (f : Nat → Bool) (n : Nat) (hn : n ≤ 16) : setOf f n < 65536 :=
  Nat.lt_of_lt_of_le (setOf_lt f n) (Nat.pow_le_pow_right (n := 2) (by omega) hn)
theorem set_of (A : Nat) (hA : A < 65536) (f : Nat → Bool) (h : ∀ k, k < 16 → A.testBit k = f k) : setOf f 16 = A := by
  refine set_ext _ _ (setOf_lt16 f 16 (by omega)) hA fun k hk => ?_
  rw [setOf_bit, h k hk]; simp [hk]
theorem not16b (B : Nat) (hB : B < 65536) (i : Nat) : (65535 - B).testBit i = (decide (i < 16) && !B.testBit i) := by
  have h := Nat.testBit_two_pow_sub_succ (show B < 2 ^ 16 by omega) i
  rw [show 65535 - B = 2 ^ 16 - (B + 1) by omega]
  exact h
/-- A without B's. -/
def lessN (A B : Nat) : Nat := A &&& (65535 - B)
theorem lessN_lt (A B : Nat) (hA : A < 65536) : lessN A B < 65536 := Nat.lt_of_le_of_lt Nat.and_le_left hA
theorem lessN_bit (A B : Nat) (hB : B < 65536) (k : Nat) (hk : k < 16) : (lessN A B).testBit k = (A.testBit k && !B.testBit k) := by
  rw [lessN, Nat.testBit_and, not16b B hB]; simp [hk]
/-- The elements of A below n, rising. -/
def elems (A : Nat) : Nat → List Int
  | 0 => []
  | n + 1 => elems A n ++ (if A.testBit n then [(n : Int)] else [])
theorem elems_len (A : Nat) : ∀ n, (elems A n).length ≤ n
  | 0 => by simp [elems]
  | n + 1 => by
    have := elems_len A n
    unfold elems; split <;> simp <;> omega
theorem elems_mem (A : Nat) : ∀ (n : Nat) (x : Int), x ∈ elems A n ↔ ∃ k : Nat, k < n ∧ x = (k : Int) ∧ A.testBit k = true
  | 0, x => by simp [elems]
  | n + 1, x => by
    unfold elems
    rw [List.mem_append, elems_mem A n x]
    constructor
    · rintro (⟨k, h1, h2, h3⟩ | h)
      · exact ⟨k, by omega, h2, h3⟩
      · split at h
        · rename_i hb; simp at h; exact ⟨n, by omega, h, hb⟩
        · simp at h
    · rintro ⟨k, h1, h2, h3⟩
      by_cases hk : k = n
      · subst hk; right; rw [if_pos h3, h2]; simp
      · left; exact ⟨k, by omega, h2, h3⟩
theorem elems_contains (A k : Nat) (hk : k < 16) : (elems A 16).contains (k : Int) = A.testBit k := by
  have h := elems_mem A 16 (k : Int)
  cases hb : A.testBit k
  · rw [Bool.eq_false_iff]
    intro hc
    rw [List.contains_iff_mem] at hc
    obtain ⟨j, _, hj, hjb⟩ := h.1 hc
    have : j = k := by omega
    subst this; rw [hb] at hjb; simp at hjb
  · rw [List.contains_iff_mem]
    exact h.2 ⟨k, hk, rfl, hb⟩
theorem uni_elems (A : Nat) (hA : A < 65536) : uni (elems A 16) = A :=
  set_ext _ _ (uni_lt _) hA fun k hk => by rw [uni_bit _ _ hk, elems_contains A k hk]
/-- Whether i is an element of A. -/
def hasN (A : Nat) (i : Int) : Bool := decide (0 ≤ i) && decide (i < 16) && A.testBit i.toNat
theorem hasN_nat (A k : Nat) (hk : k < 16) : hasN A (k : Int) = A.testBit k := by
  unfold hasN; simp; omega
theorem has_and (A : Nat) (hA : A < 65536) (i : Int) : decide (A &&& oneN i = 0) = !hasN A i := by
  have key : (A &&& oneN i = 0) ↔ hasN A i = false := by
    by_cases hi : 0 ≤ i ∧ i < 16
    · obtain ⟨k, rfl⟩ := Int.eq_ofNat_of_zero_le hi.1
      have hk : k < 16 := by omega
      rw [hasN_nat A k hk]
      constructor
      · intro h
        have h2 := congrArg (fun n => n.testBit k) h
        simpa [Nat.testBit_and, oneN_bit, hk] using h2
      · intro h
        apply Nat.eq_of_testBit_eq
        intro j
        rw [Nat.testBit_and, oneN_bit, Nat.zero_testBit]
        by_cases hj : (k : Int) = (j : Int)
        · have : k = j := by omega
          subst this; rw [h]; simp
        · simp [hj]
    · have h1 : oneN i = 0 := by unfold oneN; rw [if_neg hi]
      have h2 : hasN A i = false := by
        unfold hasN
        by_cases h0 : 0 ≤ i
        · have : ¬ i < 16 := fun h => hi ⟨h0, h⟩
          simp [this]
        · simp [h0]
      simp [h1, h2]
  cases hb : hasN A i
  · simp [key.2 hb]
  · have : ¬ (A &&& oneN i = 0) := fun h => by rw [key.1 h] at hb; simp at hb
    simp [this]
/-- Whether all of A's are B's. -/
def partN (A B : Nat) : Bool := decide (lessN A B = 0)
theorem part_iff (A B : Nat) (hA : A < 65536) (hB : B < 65536) : partN A B = true ↔ ∀ k, k < 16 → A.testBit k = true → B.testBit k = true := by
  unfold partN
  rw [decide_eq_true_iff]
  constructor
  · intro h k hk ha
    have h2 := lessN_bit A B hB k hk
    rw [h, Nat.zero_testBit, ha] at h2
    cases hb : B.testBit k
    · rw [hb] at h2; simp at h2
    · rfl
  · intro h
    refine set_ext _ _ (lessN_lt A B hA) (by omega) fun k hk => ?_
    rw [lessN_bit A B hB k hk, Nat.zero_testBit]
    cases ha : A.testBit k
    · rfl
    · rw [h k hk ha]; rfl
/-- The row of the numbers from low to high. -/
def inRow (low high : Int) (k : Nat) : Bool := decide (low ≤ (k : Int)) && decide ((k : Int) ≤ high)
def rowU (low high : Int) : Nat := setOf (inRow low high) 16
theorem setOf_step (f : Nat → Bool) (n : Nat) : setOf f (n + 1) = setOf f n + (if f n then 2 ^ n else 0) := rfl
theorem or_one (f : Nat → Bool) (n : Nat) (hn : n < 16) (hf : f n = true) : setOf f n ||| oneN (n : Int) = setOf f (n + 1) := by
  refine set_ext _ _ (or16 _ _ (setOf_lt16 f n (by omega)) (oneN_lt _)) (setOf_lt16 f (n + 1) (by omega)) fun k hk => ?_
  rw [Nat.testBit_or, oneN_bit, setOf_bit, setOf_bit]
  by_cases h : k = n
  · subst h; simp [hf, hk]
  · have h2 : ¬ ((n : Int) = (k : Int)) := by omega
    have h3 : (k < n + 1) = (k < n) := by simp; omega
    simp [h2, h3]
theorem setOf_miss (f : Nat → Bool) (n : Nat) (hf : f n = false) : setOf f (n + 1) = setOf f n := by
  rw [setOf_step, hf]; simp
theorem setOf_hit (f : Nat → Bool) (n : Nat) (hf : f n = true) : setOf f (n + 1) = setOf f n + 2 ^ n := by
  rw [setOf_step, hf]; simp
/-- The bit of the power k, by a division. -/
theorem bit_div (A k : Nat) : (A / 2 ^ k % 2 = 1) = (A.testBit k = true) := by
  rw [Nat.testBit_eq_decide_div_mod_eq, decide_eq_true_iff]
end Go.Proofs.Ytcecjjjehhjldaa
