/- The document's answers of layer 3, walked: Read. -/
import Derived.Test.YtbfclibjnanlgaaGreatDoorPlE
import Derived.Deep.DeepCutAuto
import Derived.Deep.RegionHeld3
namespace Go.Proofs.YtbfclibjnanlgaaGreatDoor
open Go.RowKit
set_option maxHeartbeats 4000000
set_option maxRecDepth 100000
set_option linter.unusedVariables false

def okP (l c : Int) : Int × Int := if isP l c then (l, c) else (0, 0)
/-- The place that a text is, behind the bytes of pre, which hold no colon. -/
def readGo (pre : List UInt8) : List UInt8 → Int × Int
  | [] => (0, 0)
  | b :: r => if b = 58 then okP (numR true 0 pre) (numR true 0 r) else readGo (pre ++ [b]) r
theorem byte_colon (b : UInt8) : ((b.toNat : Int) == 58) = decide (b = 58) := by
  by_cases h : b = 58
  · subst h; decide
  · have : ¬ ((b.toNat : Int) = 58) := fun e => h (by apply UInt8.toNat_inj.1; show b.toNat = 58; omega)
    rw [decide_eq_false h, beq_eq_false_iff_ne.2 this]
theorem extract_take (s : ByteArray) (k : Nat) (h : k ≤ s.size) : (s.extract 0 k).data.toList = s.data.toList.take k := by
  rw [ByteArray.data_extract, Array.toList_extract, List.extract_eq_take_drop]; simp
theorem extract_drop (s : ByteArray) (k : Nat) (h : k ≤ s.size) : (s.extract k s.size).data.toList = s.data.toList.drop k := by
  rw [ByteArray.data_extract, Array.toList_extract, List.extract_eq_take_drop]
  rw [List.take_of_length_le]
  rw [List.length_drop, Array.length_toList]
  exact Nat.le_refl _
theorem size_le_of (s t : ByteArray) (h : t.data.toList.length ≤ s.data.toList.length) : t.size ≤ s.size := by
  rw [Array.length_toList, Array.length_toList] at h; exact h
end Go.Proofs.YtbfclibjnanlgaaGreatDoor
