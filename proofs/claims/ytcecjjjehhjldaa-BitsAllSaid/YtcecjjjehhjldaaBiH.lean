/- BitsAll, walked. -/
import Derived.Test.YtcecjjjehhjldaaBiG
namespace Go.Proofs.Ytcecjjjehhjldaa
open Go.RowKit
set_option maxHeartbeats 1000000
set_option maxRecDepth 100000
set_option linter.unusedVariables false

theorem elems_sorted (A : Nat) : ∀ n : Nat, (elems A n).Pairwise (· < ·)
  | 0 => by simp [elems]
  | n + 1 => by
    unfold elems
    rw [List.pairwise_append]
    refine ⟨elems_sorted A n, by split <;> simp, fun x hx y hy => ?_⟩
    obtain ⟨k, h1, h2, _⟩ := (elems_mem A n x).1 hx
    split at hy
    · simp at hy; omega
    · simp at hy
theorem elI_up (s : Int) (p : Nat) (hp : p + 1 < (elI s 16).length) : (elI s 16).getD p 0 < (elI s 16).getD (p + 1) 0 := by
  have h := List.pairwise_iff_getElem.1 (elems_sorted s.toNat 16) p (p + 1) (by unfold elI at hp; omega) (by unfold elI at hp; omega) (by omega)
  have e1 : (elI s 16).getD p 0 = (elI s 16)[p] := by simp [List.getD, show p < (elI s 16).length by omega]
  have e2 : (elI s 16).getD (p + 1) 0 = (elI s 16)[p + 1] := by simp [List.getD, hp]
  rw [e1, e2]; exact h
theorem elI_in (s : Int) (p : Nat) (hp : p < (elI s 16).length) : ∃ k : Nat, k < 16 ∧ (elI s 16).getD p 0 = (k : Int) ∧ hasI s (k : Int) = true := by
  have e1 : (elI s 16).getD p 0 = (elI s 16)[p] := by simp [List.getD, hp]
  obtain ⟨k, h1, h2, h3⟩ := (elems_mem s.toNat 16 (elI s 16)[p]).1 (List.getElem_mem hp)
  exact ⟨k, h1, e1.trans h2, (has_bit s k h1).trans h3⟩
theorem elI_ok (s : Int) : IntsOk (elI s 16) := fun p hp => by
  obtain ⟨k, h1, h2, _⟩ := elI_in s p hp
  rw [h2]; omega
theorem or_all (s : Int) (s0 : 0 ≤ s) (s1 : s ≤ 65535) : orI 0 (uniI (elI s 16)) = s := by
  unfold orI uniI elI
  rw [uni_elems s.toNat (by omega), Int.toNat_natCast]
  simp; omega
theorem has_or1 (s i j : Int) : hasI (orI s (uniI [i])) j = (hasI s j || (decide (0 ≤ j) && decide (j < 16) && decide (j = i))) := by
  by_cases hj : 0 ≤ j ∧ j < 16
  · obtain ⟨k, rfl⟩ := Int.eq_ofNat_of_zero_le hj.1
    rw [has_bit _ k (by omega), or_bit, uniI_bit [i] k (by omega), has_bit s k (by omega)]
    simp [inL, hj.2]
  · rw [has_out _ j (by omega), has_out _ j (by omega)]
    by_cases h0 : 0 ≤ j
    · simp [show ¬ j < 16 by omega]
    · simp [h0]
theorem has_less1 (s i j : Int) : hasI (lessI s (uniI [i])) j = (hasI s j && !decide (j = i)) := by
  by_cases hj : 0 ≤ j ∧ j < 16
  · obtain ⟨k, rfl⟩ := Int.eq_ofNat_of_zero_le hj.1
    obtain ⟨u0, u1⟩ := uniI_bd [i]
    rw [has_bit _ k (by omega), less_bit s _ u0 u1 k (by omega), uniI_bit [i] k (by omega), has_bit s k (by omega)]
    simp [inL]
  · rw [has_out _ j (by omega), has_out _ j (by omega)]; rfl
theorem part_of (s t : Int) (s0 : 0 ≤ s) (s1 : s ≤ 65535) (t0 : 0 ≤ t) (t1 : t ≤ 65535) (h : ∀ j : Int, hasI s j = true → hasI t j = true) : partI s t = true :=
  part_yes s t s0 s1 t0 t1 fun j _ => h (j : Int)
theorem part_both (s t : Int) (s0 : 0 ≤ s) (s1 : s ≤ 65535) (t0 : 0 ≤ t) (t1 : t ≤ 65535) (h1 : partI s t = true) (h2 : partI t s = true) : s = t := by
  unfold partI at h1 h2
  rw [part_iff _ _ (by omega) (by omega)] at h1 h2
  have : s.toNat = t.toNat := set_ext _ _ (by omega) (by omega) fun k hk => by
    cases hs : s.toNat.testBit k
    · cases ht : t.toNat.testBit k
      · rfl
      · rw [h2 k hk ht] at hs; exact hs.symm
    · exact (h1 k hk hs).symm
  omega
theorem part_self' (s : Int) (s0 : 0 ≤ s) (s1 : s ≤ 65535) : partI s s = true := part_of s s s0 s1 s0 s1 fun _ h => h
theorem With_all (s : Int) (s0 : 0 ≤ s) (s1 : s ≤ 65535) (m : List Int) (hm : elI s 16 = m) (w : World) (ao : Option Addr) (cap : Nat) (h : IntsIn w ao m) :
    Calls Try.prog 10 #[.int .u16 0, .slice ao m.length cap] w fun e w' => e = .returned (.int .u16 s) ∧ w = w' := by
  subst hm
  have := With_any 0 (by omega) (by omega) ao cap (elI s 16) (by have := elI_len s 16; omega) w h (elI_ok s)
  rw [or_all s s0 s1] at this
  exact this
theorem ok_one1 (i : Int) (i0 : -9223372036854775808 ≤ i) (i1 : i ≤ 9223372036854775807) : IntsOk [i] := fun j hj => by
  match j, hj with | 0, _ => exact ⟨i0, i1⟩
/-- What stands in the list of all elements of s, for the round. -/
structure AllOf (s : Int) (m : List Int) : Prop where
  has : ∀ p, p < m.length → ∃ k : Nat, k < 16 ∧ m.getD p 0 = (k : Int) ∧ hasI s (k : Int) = true
  up : ∀ p, p + 1 < m.length → m.getD p 0 < m.getD (p + 1) 0
  len : m.length ≤ 16
theorem allOf (s : Int) : AllOf s (elI s 16) := ⟨elI_in s, elI_up s, elI_len s 16⟩
theorem Has_q (s i : Int) (s0 : 0 ≤ s) (s1 : s ≤ 65535) (h0 : -9223372036854775808 ≤ i) (h1 : i ≤ 9223372036854775807) (b : Bool) (hb : hasI s i = b) (w : World) :
    Calls Try.prog 8 #[.int .u16 s, .int .i64 i] w fun e w' => e = .returned (.bool b) ∧ w' = w := by
  subst hb
  exact (Has_any s i s0 s1 h0 h1 w).mono fun _ _ ⟨he, hw⟩ => ⟨he, hw.symm⟩

/-- All that the walk of BitsAll asks, by its numbers: a and b: with and without i. -/
structure AllSet (s t i k a b : Int) (m : List Int) (bi : Bool) : Prop where
  s0 : 0 ≤ s
  s1 : s ≤ 65535
  a0 : 0 ≤ a
  a1 : a ≤ 65535
  b0 : 0 ≤ b
  b1 : b ≤ 65535
  hm : elI s 16 = m
  ai : hasI a i = bi
  bn : hasI b i = false
  ak : i ≠ k → hasI a k = hasI s k
  bk : i ≠ k → hasI b k = hasI s k
  sa : partI s a = true
  bs : partI b s = true
theorem allSet (s t i k : Int) (s0 : 0 ≤ s) (s1 : s ≤ 65535) : AllSet s t i k (orI s (uniI [i])) (lessI s (uniI [i])) (elI s 16) (decide (0 ≤ i) && decide (i < 16)) := by
  obtain ⟨u0, u1⟩ := uniI_bd [i]
  obtain ⟨o0, o1⟩ := orI_bd s (uniI [i]) s0 s1 u0 u1
  obtain ⟨p0, p1⟩ := lessI_bd s (uniI [i]) s0 s1
  refine ⟨s0, s1, o0, o1, p0, p1, rfl, ?_, ?_, fun h => ?_, fun h => ?_, ?_, ?_⟩
  · rw [has_or1]
    by_cases hi : 0 ≤ i ∧ i < 16
    · simp [hi.1, hi.2]
    · rw [has_out s i (by omega)]; simp
  · rw [has_less1]; simp
  · rw [has_or1]; simp [Ne.symm h]
  · rw [has_less1]; simp [Ne.symm h]
  · exact part_of _ _ s0 s1 o0 o1 fun j hj => by rw [has_or1, hj]; rfl
  · exact part_of _ _ p0 p1 s0 s1 fun j hj => by rw [has_less1, Bool.and_eq_true] at hj; exact hj.1
end Go.Proofs.Ytcecjjjehhjldaa
