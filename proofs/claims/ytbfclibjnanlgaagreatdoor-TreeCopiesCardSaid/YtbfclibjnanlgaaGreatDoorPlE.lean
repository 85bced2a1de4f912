/- The document's answers of layer 3, walked: Number, Read. -/
import Derived.Test.YtbfclibjnanlgaaGreatDoorPlD
namespace Go.Proofs.YtbfclibjnanlgaaGreatDoor
open Go.RowKit
set_option maxHeartbeats 1000000
set_option maxRecDepth 100000
set_option linter.unusedVariables false

/-- The number that digits are, the first one not 0 (the flag: it is the first one); 0: it is none, or above the most. -/
def numR (first : Bool) (n : Int) : List UInt8 → Int
  | [] => if 1073741824 < n then 0 else n
  | b :: r => if (b.toNat : Int) < 48 ∨ 57 < (b.toNat : Int) ∨ (first = true ∧ (b.toNat : Int) = 48) ∨ 1073741824 < n then 0 else numR false (10 * n + ((b.toNat : Int) - 48)) r
theorem numR_nil (f : Bool) (n : Int) (h : ¬ 1073741824 < n) : numR f n [] = n := by unfold numR; rw [if_neg h]
theorem numR_big (f : Bool) (n : Int) (s : List UInt8) (h : 1073741824 < n) : numR f n s = 0 := by
  cases s
  · unfold numR; rw [if_pos h]
  · unfold numR; rw [if_pos (.inr (.inr (.inr h)))]
theorem numR_bad (f : Bool) (n : Int) (b : UInt8) (r : List UInt8) (h : (b.toNat : Int) < 48 ∨ 57 < (b.toNat : Int) ∨ (f = true ∧ (b.toNat : Int) = 48)) : numR f n (b :: r) = 0 := by
  unfold numR
  rw [if_pos]
  rcases h with h | h | h
  · exact .inl h
  · exact .inr (.inl h)
  · exact .inr (.inr (.inl h))
theorem numR_good (f : Bool) (n : Int) (b : UInt8) (r : List UInt8) (h1 : 48 ≤ (b.toNat : Int)) (h2 : (b.toNat : Int) ≤ 57) (h3 : f = true → (b.toNat : Int) ≠ 48) (h4 : ¬ 1073741824 < n) : numR f n (b :: r) = numR false (10 * n + ((b.toNat : Int) - 48)) r := by
  rw [numR, if_neg]
  rintro (h | h | ⟨h, g⟩ | h)
  · omega
  · omega
  · exact h3 h g
  · exact h4 h
theorem numR_bd : ∀ (s : List UInt8) (f : Bool) (n : Int), 0 ≤ n → 0 ≤ numR f n s ∧ numR f n s ≤ 1073741824
  | [], f, n, h => by unfold numR; split <;> omega
  | b :: r, f, n, h => by
    unfold numR
    split
    · omega
    · rename_i hc
      exact numR_bd r false _ (by omega)
end Go.Proofs.YtbfclibjnanlgaaGreatDoor
