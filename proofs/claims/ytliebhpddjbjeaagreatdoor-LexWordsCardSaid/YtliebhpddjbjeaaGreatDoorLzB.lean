/- Package lex, walked: Word; a token of a kind and a text; names. -/
import Derived.Test.YtliebhpddjbjeaaGreatDoorLzA
import Derived.Test.YtliebhpddjbjeaaGreatDoorLyV
import Derived.Test.YtliebhpddjbjeaaGreatDoorShelf
namespace Go.Proofs.YtliebhpddjbjeaaGreatDoor
open Go.RowKit
set_option maxHeartbeats 1000000
set_option maxRecDepth 100000
set_option linter.unusedVariables false

theorem lit_no (x a b : List UInt8) (h : x = a) (k : (a == b) = false) : (x == b) = false := by rw [h]; exact k
theorem zw_0 (s : ByteArray) (h : s.data.toList = [65, 78, 68]) (w : World) :
    Calls Tryz.prog 10 #[.string s] w fun e w' => e = .returned (.bool true) ∧ w' = w := by
  have hl : s.toList = [65, 78, 68] := (ByteArray.toList_eq s).trans h
  have q0 : (s.toList == [65, 78, 68]) = true := by rw [hl]; decide
  clear hl h
  go_enter Tryz.func10, Tryz.ntmps10
  go_wp2_with fail
  go_ret
  exact ⟨rfl, rfl⟩
theorem zw_1 (s : ByteArray) (h : s.data.toList = [65, 82, 82, 65, 89]) (w : World) :
    Calls Tryz.prog 10 #[.string s] w fun e w' => e = .returned (.bool true) ∧ w' = w := by
  have hl : s.toList = [65, 82, 82, 65, 89] := (ByteArray.toList_eq s).trans h
  have q0 := lit_no _ _ [65, 78, 68] hl (by decide)
  have q1 : (s.toList == [65, 82, 82, 65, 89]) = true := by rw [hl]; decide
  clear hl h
  go_enter Tryz.func10, Tryz.ntmps10
  go_wp2_with fail
  go_ret
  exact ⟨rfl, rfl⟩
theorem zw_2 (s : ByteArray) (h : s.data.toList = [66, 69, 71, 73, 78]) (w : World) :
    Calls Tryz.prog 10 #[.string s] w fun e w' => e = .returned (.bool true) ∧ w' = w := by
  have hl : s.toList = [66, 69, 71, 73, 78] := (ByteArray.toList_eq s).trans h
  have q0 := lit_no _ _ [65, 78, 68] hl (by decide)
  have q1 := lit_no _ _ [65, 82, 82, 65, 89] hl (by decide)
  have q2 : (s.toList == [66, 69, 71, 73, 78]) = true := by rw [hl]; decide
  clear hl h
  go_enter Tryz.func10, Tryz.ntmps10
  go_wp2_with fail
  go_ret
  exact ⟨rfl, rfl⟩
theorem zw_3 (s : ByteArray) (h : s.data.toList = [66, 89]) (w : World) :
    Calls Tryz.prog 10 #[.string s] w fun e w' => e = .returned (.bool true) ∧ w' = w := by
  have hl : s.toList = [66, 89] := (ByteArray.toList_eq s).trans h
  have q0 := lit_no _ _ [65, 78, 68] hl (by decide)
  have q1 := lit_no _ _ [65, 82, 82, 65, 89] hl (by decide)
  have q2 := lit_no _ _ [66, 69, 71, 73, 78] hl (by decide)
  have q3 : (s.toList == [66, 89]) = true := by rw [hl]; decide
  clear hl h
  go_enter Tryz.func10, Tryz.ntmps10
  go_wp2_with fail
  go_ret
  exact ⟨rfl, rfl⟩
theorem zw_4 (s : ByteArray) (h : s.data.toList = [67, 65, 83, 69]) (w : World) :
    Calls Tryz.prog 10 #[.string s] w fun e w' => e = .returned (.bool true) ∧ w' = w := by
  have hl : s.toList = [67, 65, 83, 69] := (ByteArray.toList_eq s).trans h
  have q0 := lit_no _ _ [65, 78, 68] hl (by decide)
  have q1 := lit_no _ _ [65, 82, 82, 65, 89] hl (by decide)
  have q2 := lit_no _ _ [66, 69, 71, 73, 78] hl (by decide)
  have q3 := lit_no _ _ [66, 89] hl (by decide)
  have q4 : (s.toList == [67, 65, 83, 69]) = true := by rw [hl]; decide
  clear hl h
  go_enter Tryz.func10, Tryz.ntmps10
  go_wp2_with fail
  go_ret
  exact ⟨rfl, rfl⟩
theorem zw_5 (s : ByteArray) (h : s.data.toList = [67, 79, 78, 83, 84]) (w : World) :
    Calls Tryz.prog 10 #[.string s] w fun e w' => e = .returned (.bool true) ∧ w' = w := by
  have hl : s.toList = [67, 79, 78, 83, 84] := (ByteArray.toList_eq s).trans h
  have q0 := lit_no _ _ [65, 78, 68] hl (by decide)
  have q1 := lit_no _ _ [65, 82, 82, 65, 89] hl (by decide)
  have q2 := lit_no _ _ [66, 69, 71, 73, 78] hl (by decide)
  have q3 := lit_no _ _ [66, 89] hl (by decide)
  have q4 := lit_no _ _ [67, 65, 83, 69] hl (by decide)
  have q5 : (s.toList == [67, 79, 78, 83, 84]) = true := by rw [hl]; decide
  clear hl h
  go_enter Tryz.func10, Tryz.ntmps10
  go_wp2_with fail
  go_ret
  exact ⟨rfl, rfl⟩
theorem zw_6 (s : ByteArray) (h : s.data.toList = [68, 69, 70, 73, 78, 73, 84, 73, 79, 78]) (w : World) :
    Calls Tryz.prog 10 #[.string s] w fun e w' => e = .returned (.bool true) ∧ w' = w := by
  have hl : s.toList = [68, 69, 70, 73, 78, 73, 84, 73, 79, 78] := (ByteArray.toList_eq s).trans h
  have q0 := lit_no _ _ [65, 78, 68] hl (by decide)
  have q1 := lit_no _ _ [65, 82, 82, 65, 89] hl (by decide)
  have q2 := lit_no _ _ [66, 69, 71, 73, 78] hl (by decide)
  have q3 := lit_no _ _ [66, 89] hl (by decide)
  have q4 := lit_no _ _ [67, 65, 83, 69] hl (by decide)
  have q5 := lit_no _ _ [67, 79, 78, 83, 84] hl (by decide)
  have q6 : (s.toList == [68, 69, 70, 73, 78, 73, 84, 73, 79, 78]) = true := by rw [hl]; decide
  clear hl h
  go_enter Tryz.func10, Tryz.ntmps10
  go_wp2_with fail
  go_ret
  exact ⟨rfl, rfl⟩
theorem zw_7 (s : ByteArray) (h : s.data.toList = [68, 73, 86]) (w : World) :
    Calls Tryz.prog 10 #[.string s] w fun e w' => e = .returned (.bool true) ∧ w' = w := by
  have hl : s.toList = [68, 73, 86] := (ByteArray.toList_eq s).trans h
  have q0 := lit_no _ _ [65, 78, 68] hl (by decide)
  have q1 := lit_no _ _ [65, 82, 82, 65, 89] hl (by decide)
  have q2 := lit_no _ _ [66, 69, 71, 73, 78] hl (by decide)
  have q3 := lit_no _ _ [66, 89] hl (by decide)
  have q4 := lit_no _ _ [67, 65, 83, 69] hl (by decide)
  have q5 := lit_no _ _ [67, 79, 78, 83, 84] hl (by decide)
  have q6 := lit_no _ _ [68, 69, 70, 73, 78, 73, 84, 73, 79, 78] hl (by decide)
  have q7 : (s.toList == [68, 73, 86]) = true := by rw [hl]; decide
  clear hl h
  go_enter Tryz.func10, Tryz.ntmps10
  go_wp2_with fail
  go_ret
  exact ⟨rfl, rfl⟩
theorem zw_8 (s : ByteArray) (h : s.data.toList = [68, 79]) (w : World) :
    Calls Tryz.prog 10 #[.string s] w fun e w' => e = .returned (.bool true) ∧ w' = w := by
  have hl : s.toList = [68, 79] := (ByteArray.toList_eq s).trans h
  have q0 := lit_no _ _ [65, 78, 68] hl (by decide)
  have q1 := lit_no _ _ [65, 82, 82, 65, 89] hl (by decide)
  have q2 := lit_no _ _ [66, 69, 71, 73, 78] hl (by decide)
  have q3 := lit_no _ _ [66, 89] hl (by decide)
  have q4 := lit_no _ _ [67, 65, 83, 69] hl (by decide)
  have q5 := lit_no _ _ [67, 79, 78, 83, 84] hl (by decide)
  have q6 := lit_no _ _ [68, 69, 70, 73, 78, 73, 84, 73, 79, 78] hl (by decide)
  have q7 := lit_no _ _ [68, 73, 86] hl (by decide)
  have q8 : (s.toList == [68, 79]) = true := by rw [hl]; decide
  clear hl h
  go_enter Tryz.func10, Tryz.ntmps10
  go_wp2_with fail
  go_ret
  exact ⟨rfl, rfl⟩
theorem zw_9 (s : ByteArray) (h : s.data.toList = [69, 76, 83, 69]) (w : World) :
    Calls Tryz.prog 10 #[.string s] w fun e w' => e = .returned (.bool true) ∧ w' = w := by
  have hl : s.toList = [69, 76, 83, 69] := (ByteArray.toList_eq s).trans h
  have q0 := lit_no _ _ [65, 78, 68] hl (by decide)
  have q1 := lit_no _ _ [65, 82, 82, 65, 89] hl (by decide)
  have q2 := lit_no _ _ [66, 69, 71, 73, 78] hl (by decide)
  have q3 := lit_no _ _ [66, 89] hl (by decide)
  have q4 := lit_no _ _ [67, 65, 83, 69] hl (by decide)
  have q5 := lit_no _ _ [67, 79, 78, 83, 84] hl (by decide)
  have q6 := lit_no _ _ [68, 69, 70, 73, 78, 73, 84, 73, 79, 78] hl (by decide)
  have q7 := lit_no _ _ [68, 73, 86] hl (by decide)
  have q8 := lit_no _ _ [68, 79] hl (by decide)
  have q9 : (s.toList == [69, 76, 83, 69]) = true := by rw [hl]; decide
  clear hl h
  go_enter Tryz.func10, Tryz.ntmps10
  go_wp2_with fail
  go_ret
  exact ⟨rfl, rfl⟩
theorem zw_10 (s : ByteArray) (h : s.data.toList = [69, 76, 83, 73, 70]) (w : World) :
    Calls Tryz.prog 10 #[.string s] w fun e w' => e = .returned (.bool true) ∧ w' = w := by
  have hl : s.toList = [69, 76, 83, 73, 70] := (ByteArray.toList_eq s).trans h
  have q0 := lit_no _ _ [65, 78, 68] hl (by decide)
  have q1 := lit_no _ _ [65, 82, 82, 65, 89] hl (by decide)
  have q2 := lit_no _ _ [66, 69, 71, 73, 78] hl (by decide)
  have q3 := lit_no _ _ [66, 89] hl (by decide)
  have q4 := lit_no _ _ [67, 65, 83, 69] hl (by decide)
  have q5 := lit_no _ _ [67, 79, 78, 83, 84] hl (by decide)
  have q6 := lit_no _ _ [68, 69, 70, 73, 78, 73, 84, 73, 79, 78] hl (by decide)
  have q7 := lit_no _ _ [68, 73, 86] hl (by decide)
  have q8 := lit_no _ _ [68, 79] hl (by decide)
  have q9 := lit_no _ _ [69, 76, 83, 69] hl (by decide)
  have q10 : (s.toList == [69, 76, 83, 73, 70]) = true := by rw [hl]; decide
  clear hl h
  go_enter Tryz.func10, Tryz.ntmps10
  go_wp2_with fail
  go_ret
  exact ⟨rfl, rfl⟩
theorem zw_11 (s : ByteArray) (h : s.data.toList = [69, 78, 68]) (w : World) :
    Calls Tryz.prog 10 #[.string s] w fun e w' => e = .returned (.bool true) ∧ w' = w := by
  have hl : s.toList = [69, 78, 68] := (ByteArray.toList_eq s).trans h
  have q0 := lit_no _ _ [65, 78, 68] hl (by decide)
  have q1 := lit_no _ _ [65, 82, 82, 65, 89] hl (by decide)
  have q2 := lit_no _ _ [66, 69, 71, 73, 78] hl (by decide)
  have q3 := lit_no _ _ [66, 89] hl (by decide)
  have q4 := lit_no _ _ [67, 65, 83, 69] hl (by decide)
  have q5 := lit_no _ _ [67, 79, 78, 83, 84] hl (by decide)
  have q6 := lit_no _ _ [68, 69, 70, 73, 78, 73, 84, 73, 79, 78] hl (by decide)
  have q7 := lit_no _ _ [68, 73, 86] hl (by decide)
  have q8 := lit_no _ _ [68, 79] hl (by decide)
  have q9 := lit_no _ _ [69, 76, 83, 69] hl (by decide)
  have q10 := lit_no _ _ [69, 76, 83, 73, 70] hl (by decide)
  have q11 : (s.toList == [69, 78, 68]) = true := by rw [hl]; decide
  clear hl h
  go_enter Tryz.func10, Tryz.ntmps10
  go_wp2_with fail
  go_ret
  exact ⟨rfl, rfl⟩
theorem zw_12 (s : ByteArray) (h : s.data.toList = [69, 88, 73, 84]) (w : World) :
    Calls Tryz.prog 10 #[.string s] w fun e w' => e = .returned (.bool true) ∧ w' = w := by
  have hl : s.toList = [69, 88, 73, 84] := (ByteArray.toList_eq s).trans h
  have q0 := lit_no _ _ [65, 78, 68] hl (by decide)
  have q1 := lit_no _ _ [65, 82, 82, 65, 89] hl (by decide)
  have q2 := lit_no _ _ [66, 69, 71, 73, 78] hl (by decide)
  have q3 := lit_no _ _ [66, 89] hl (by decide)
  have q4 := lit_no _ _ [67, 65, 83, 69] hl (by decide)
  have q5 := lit_no _ _ [67, 79, 78, 83, 84] hl (by decide)
  have q6 := lit_no _ _ [68, 69, 70, 73, 78, 73, 84, 73, 79, 78] hl (by decide)
  have q7 := lit_no _ _ [68, 73, 86] hl (by decide)
  have q8 := lit_no _ _ [68, 79] hl (by decide)
  have q9 := lit_no _ _ [69, 76, 83, 69] hl (by decide)
  have q10 := lit_no _ _ [69, 76, 83, 73, 70] hl (by decide)
  have q11 := lit_no _ _ [69, 78, 68] hl (by decide)
  have q12 : (s.toList == [69, 88, 73, 84]) = true := by rw [hl]; decide
  clear hl h
  go_enter Tryz.func10, Tryz.ntmps10
  go_wp2_with fail
  go_ret
  exact ⟨rfl, rfl⟩
theorem zw_13 (s : ByteArray) (h : s.data.toList = [69, 88, 80, 79, 82, 84]) (w : World) :
    Calls Tryz.prog 10 #[.string s] w fun e w' => e = .returned (.bool true) ∧ w' = w := by
  have hl : s.toList = [69, 88, 80, 79, 82, 84] := (ByteArray.toList_eq s).trans h
  have q0 := lit_no _ _ [65, 78, 68] hl (by decide)
  have q1 := lit_no _ _ [65, 82, 82, 65, 89] hl (by decide)
  have q2 := lit_no _ _ [66, 69, 71, 73, 78] hl (by decide)
  have q3 := lit_no _ _ [66, 89] hl (by decide)
  have q4 := lit_no _ _ [67, 65, 83, 69] hl (by decide)
  have q5 := lit_no _ _ [67, 79, 78, 83, 84] hl (by decide)
  have q6 := lit_no _ _ [68, 69, 70, 73, 78, 73, 84, 73, 79, 78] hl (by decide)
  have q7 := lit_no _ _ [68, 73, 86] hl (by decide)
  have q8 := lit_no _ _ [68, 79] hl (by decide)
  have q9 := lit_no _ _ [69, 76, 83, 69] hl (by decide)
  have q10 := lit_no _ _ [69, 76, 83, 73, 70] hl (by decide)
  have q11 := lit_no _ _ [69, 78, 68] hl (by decide)
  have q12 := lit_no _ _ [69, 88, 73, 84] hl (by decide)
  have q13 : (s.toList == [69, 88, 80, 79, 82, 84]) = true := by rw [hl]; decide
  clear hl h
  go_enter Tryz.func10, Tryz.ntmps10
  go_wp2_with fail
  go_ret
  exact ⟨rfl, rfl⟩
theorem zw_14 (s : ByteArray) (h : s.data.toList = [70, 79, 82]) (w : World) :
    Calls Tryz.prog 10 #[.string s] w fun e w' => e = .returned (.bool true) ∧ w' = w := by
  have hl : s.toList = [70, 79, 82] := (ByteArray.toList_eq s).trans h
  have q0 := lit_no _ _ [65, 78, 68] hl (by decide)
  have q1 := lit_no _ _ [65, 82, 82, 65, 89] hl (by decide)
  have q2 := lit_no _ _ [66, 69, 71, 73, 78] hl (by decide)
  have q3 := lit_no _ _ [66, 89] hl (by decide)
  have q4 := lit_no _ _ [67, 65, 83, 69] hl (by decide)
  have q5 := lit_no _ _ [67, 79, 78, 83, 84] hl (by decide)
  have q6 := lit_no _ _ [68, 69, 70, 73, 78, 73, 84, 73, 79, 78] hl (by decide)
  have q7 := lit_no _ _ [68, 73, 86] hl (by decide)
  have q8 := lit_no _ _ [68, 79] hl (by decide)
  have q9 := lit_no _ _ [69, 76, 83, 69] hl (by decide)
  have q10 := lit_no _ _ [69, 76, 83, 73, 70] hl (by decide)
  have q11 := lit_no _ _ [69, 78, 68] hl (by decide)
  have q12 := lit_no _ _ [69, 88, 73, 84] hl (by decide)
  have q13 := lit_no _ _ [69, 88, 80, 79, 82, 84] hl (by decide)
  have q14 : (s.toList == [70, 79, 82]) = true := by rw [hl]; decide
  clear hl h
  go_enter Tryz.func10, Tryz.ntmps10
  go_wp2_with fail
  go_ret
  exact ⟨rfl, rfl⟩
theorem zw_15 (s : ByteArray) (h : s.data.toList = [70, 82, 79, 77]) (w : World) :
    Calls Tryz.prog 10 #[.string s] w fun e w' => e = .returned (.bool true) ∧ w' = w := by
  have hl : s.toList = [70, 82, 79, 77] := (ByteArray.toList_eq s).trans h
  have q0 := lit_no _ _ [65, 78, 68] hl (by decide)
  have q1 := lit_no _ _ [65, 82, 82, 65, 89] hl (by decide)
  have q2 := lit_no _ _ [66, 69, 71, 73, 78] hl (by decide)
  have q3 := lit_no _ _ [66, 89] hl (by decide)
  have q4 := lit_no _ _ [67, 65, 83, 69] hl (by decide)
  have q5 := lit_no _ _ [67, 79, 78, 83, 84] hl (by decide)
  have q6 := lit_no _ _ [68, 69, 70, 73, 78, 73, 84, 73, 79, 78] hl (by decide)
  have q7 := lit_no _ _ [68, 73, 86] hl (by decide)
  have q8 := lit_no _ _ [68, 79] hl (by decide)
  have q9 := lit_no _ _ [69, 76, 83, 69] hl (by decide)
  have q10 := lit_no _ _ [69, 76, 83, 73, 70] hl (by decide)
  have q11 := lit_no _ _ [69, 78, 68] hl (by decide)
  have q12 := lit_no _ _ [69, 88, 73, 84] hl (by decide)
  have q13 := lit_no _ _ [69, 88, 80, 79, 82, 84] hl (by decide)
  have q14 := lit_no _ _ [70, 79, 82] hl (by decide)
  have q15 : (s.toList == [70, 82, 79, 77]) = true := by rw [hl]; decide
  clear hl h
  go_enter Tryz.func10, Tryz.ntmps10
  go_wp2_with fail
  go_ret
  exact ⟨rfl, rfl⟩
theorem zw_16 (s : ByteArray) (h : s.data.toList = [73, 70]) (w : World) :
    Calls Tryz.prog 10 #[.string s] w fun e w' => e = .returned (.bool true) ∧ w' = w := by
  have hl : s.toList = [73, 70] := (ByteArray.toList_eq s).trans h
  have q0 := lit_no _ _ [65, 78, 68] hl (by decide)
  have q1 := lit_no _ _ [65, 82, 82, 65, 89] hl (by decide)
  have q2 := lit_no _ _ [66, 69, 71, 73, 78] hl (by decide)
  have q3 := lit_no _ _ [66, 89] hl (by decide)
  have q4 := lit_no _ _ [67, 65, 83, 69] hl (by decide)
  have q5 := lit_no _ _ [67, 79, 78, 83, 84] hl (by decide)
  have q6 := lit_no _ _ [68, 69, 70, 73, 78, 73, 84, 73, 79, 78] hl (by decide)
  have q7 := lit_no _ _ [68, 73, 86] hl (by decide)
  have q8 := lit_no _ _ [68, 79] hl (by decide)
  have q9 := lit_no _ _ [69, 76, 83, 69] hl (by decide)
  have q10 := lit_no _ _ [69, 76, 83, 73, 70] hl (by decide)
  have q11 := lit_no _ _ [69, 78, 68] hl (by decide)
  have q12 := lit_no _ _ [69, 88, 73, 84] hl (by decide)
  have q13 := lit_no _ _ [69, 88, 80, 79, 82, 84] hl (by decide)
  have q14 := lit_no _ _ [70, 79, 82] hl (by decide)
  have q15 := lit_no _ _ [70, 82, 79, 77] hl (by decide)
  have q16 : (s.toList == [73, 70]) = true := by rw [hl]; decide
  clear hl h
  go_enter Tryz.func10, Tryz.ntmps10
  go_wp2_with fail
  go_ret
  exact ⟨rfl, rfl⟩
theorem zw_17 (s : ByteArray) (h : s.data.toList = [73, 77, 80, 76, 69, 77, 69, 78, 84, 65, 84, 73, 79, 78]) (w : World) :
    Calls Tryz.prog 10 #[.string s] w fun e w' => e = .returned (.bool true) ∧ w' = w := by
  have hl : s.toList = [73, 77, 80, 76, 69, 77, 69, 78, 84, 65, 84, 73, 79, 78] := (ByteArray.toList_eq s).trans h
  have q0 := lit_no _ _ [65, 78, 68] hl (by decide)
  have q1 := lit_no _ _ [65, 82, 82, 65, 89] hl (by decide)
  have q2 := lit_no _ _ [66, 69, 71, 73, 78] hl (by decide)
  have q3 := lit_no _ _ [66, 89] hl (by decide)
  have q4 := lit_no _ _ [67, 65, 83, 69] hl (by decide)
  have q5 := lit_no _ _ [67, 79, 78, 83, 84] hl (by decide)
  have q6 := lit_no _ _ [68, 69, 70, 73, 78, 73, 84, 73, 79, 78] hl (by decide)
  have q7 := lit_no _ _ [68, 73, 86] hl (by decide)
  have q8 := lit_no _ _ [68, 79] hl (by decide)
  have q9 := lit_no _ _ [69, 76, 83, 69] hl (by decide)
  have q10 := lit_no _ _ [69, 76, 83, 73, 70] hl (by decide)
  have q11 := lit_no _ _ [69, 78, 68] hl (by decide)
  have q12 := lit_no _ _ [69, 88, 73, 84] hl (by decide)
  have q13 := lit_no _ _ [69, 88, 80, 79, 82, 84] hl (by decide)
  have q14 := lit_no _ _ [70, 79, 82] hl (by decide)
  have q15 := lit_no _ _ [70, 82, 79, 77] hl (by decide)
  have q16 := lit_no _ _ [73, 70] hl (by decide)
  have q17 : (s.toList == [73, 77, 80, 76, 69, 77, 69, 78, 84, 65, 84, 73, 79, 78]) = true := by rw [hl]; decide
  clear hl h
  go_enter Tryz.func10, Tryz.ntmps10
  go_wp2_with fail
  go_ret
  exact ⟨rfl, rfl⟩
theorem zw_18 (s : ByteArray) (h : s.data.toList = [73, 77, 80, 79, 82, 84]) (w : World) :
    Calls Tryz.prog 10 #[.string s] w fun e w' => e = .returned (.bool true) ∧ w' = w := by
  have hl : s.toList = [73, 77, 80, 79, 82, 84] := (ByteArray.toList_eq s).trans h
  have q0 := lit_no _ _ [65, 78, 68] hl (by decide)
  have q1 := lit_no _ _ [65, 82, 82, 65, 89] hl (by decide)
  have q2 := lit_no _ _ [66, 69, 71, 73, 78] hl (by decide)
  have q3 := lit_no _ _ [66, 89] hl (by decide)
  have q4 := lit_no _ _ [67, 65, 83, 69] hl (by decide)
  have q5 := lit_no _ _ [67, 79, 78, 83, 84] hl (by decide)
  have q6 := lit_no _ _ [68, 69, 70, 73, 78, 73, 84, 73, 79, 78] hl (by decide)
  have q7 := lit_no _ _ [68, 73, 86] hl (by decide)
  have q8 := lit_no _ _ [68, 79] hl (by decide)
  have q9 := lit_no _ _ [69, 76, 83, 69] hl (by decide)
  have q10 := lit_no _ _ [69, 76, 83, 73, 70] hl (by decide)
  have q11 := lit_no _ _ [69, 78, 68] hl (by decide)
  have q12 := lit_no _ _ [69, 88, 73, 84] hl (by decide)
  have q13 := lit_no _ _ [69, 88, 80, 79, 82, 84] hl (by decide)
  have q14 := lit_no _ _ [70, 79, 82] hl (by decide)
  have q15 := lit_no _ _ [70, 82, 79, 77] hl (by decide)
  have q16 := lit_no _ _ [73, 70] hl (by decide)
  have q17 := lit_no _ _ [73, 77, 80, 76, 69, 77, 69, 78, 84, 65, 84, 73, 79, 78] hl (by decide)
  have q18 : (s.toList == [73, 77, 80, 79, 82, 84]) = true := by rw [hl]; decide
  clear hl h
  go_enter Tryz.func10, Tryz.ntmps10
  go_wp2_with fail
  go_ret
  exact ⟨rfl, rfl⟩
theorem zw_19 (s : ByteArray) (h : s.data.toList = [73, 78]) (w : World) :
    Calls Tryz.prog 10 #[.string s] w fun e w' => e = .returned (.bool true) ∧ w' = w := by
  have hl : s.toList = [73, 78] := (ByteArray.toList_eq s).trans h
  have q0 := lit_no _ _ [65, 78, 68] hl (by decide)
  have q1 := lit_no _ _ [65, 82, 82, 65, 89] hl (by decide)
  have q2 := lit_no _ _ [66, 69, 71, 73, 78] hl (by decide)
  have q3 := lit_no _ _ [66, 89] hl (by decide)
  have q4 := lit_no _ _ [67, 65, 83, 69] hl (by decide)
  have q5 := lit_no _ _ [67, 79, 78, 83, 84] hl (by decide)
  have q6 := lit_no _ _ [68, 69, 70, 73, 78, 73, 84, 73, 79, 78] hl (by decide)
  have q7 := lit_no _ _ [68, 73, 86] hl (by decide)
  have q8 := lit_no _ _ [68, 79] hl (by decide)
  have q9 := lit_no _ _ [69, 76, 83, 69] hl (by decide)
  have q10 := lit_no _ _ [69, 76, 83, 73, 70] hl (by decide)
  have q11 := lit_no _ _ [69, 78, 68] hl (by decide)
  have q12 := lit_no _ _ [69, 88, 73, 84] hl (by decide)
  have q13 := lit_no _ _ [69, 88, 80, 79, 82, 84] hl (by decide)
  have q14 := lit_no _ _ [70, 79, 82] hl (by decide)
  have q15 := lit_no _ _ [70, 82, 79, 77] hl (by decide)
  have q16 := lit_no _ _ [73, 70] hl (by decide)
  have q17 := lit_no _ _ [73, 77, 80, 76, 69, 77, 69, 78, 84, 65, 84, 73, 79, 78] hl (by decide)
  have q18 := lit_no _ _ [73, 77, 80, 79, 82, 84] hl (by decide)
  have q19 : (s.toList == [73, 78]) = true := by rw [hl]; decide
  clear hl h
  go_enter Tryz.func10, Tryz.ntmps10
  go_wp2_with fail
  go_ret
  exact ⟨rfl, rfl⟩
theorem zw_20 (s : ByteArray) (h : s.data.toList = [76, 79, 79, 80]) (w : World) :
    Calls Tryz.prog 10 #[.string s] w fun e w' => e = .returned (.bool true) ∧ w' = w := by
  have hl : s.toList = [76, 79, 79, 80] := (ByteArray.toList_eq s).trans h
  have q0 := lit_no _ _ [65, 78, 68] hl (by decide)
  have q1 := lit_no _ _ [65, 82, 82, 65, 89] hl (by decide)
  have q2 := lit_no _ _ [66, 69, 71, 73, 78] hl (by decide)
  have q3 := lit_no _ _ [66, 89] hl (by decide)
  have q4 := lit_no _ _ [67, 65, 83, 69] hl (by decide)
  have q5 := lit_no _ _ [67, 79, 78, 83, 84] hl (by decide)
  have q6 := lit_no _ _ [68, 69, 70, 73, 78, 73, 84, 73, 79, 78] hl (by decide)
  have q7 := lit_no _ _ [68, 73, 86] hl (by decide)
  have q8 := lit_no _ _ [68, 79] hl (by decide)
  have q9 := lit_no _ _ [69, 76, 83, 69] hl (by decide)
  have q10 := lit_no _ _ [69, 76, 83, 73, 70] hl (by decide)
  have q11 := lit_no _ _ [69, 78, 68] hl (by decide)
  have q12 := lit_no _ _ [69, 88, 73, 84] hl (by decide)
  have q13 := lit_no _ _ [69, 88, 80, 79, 82, 84] hl (by decide)
  have q14 := lit_no _ _ [70, 79, 82] hl (by decide)
  have q15 := lit_no _ _ [70, 82, 79, 77] hl (by decide)
  have q16 := lit_no _ _ [73, 70] hl (by decide)
  have q17 := lit_no _ _ [73, 77, 80, 76, 69, 77, 69, 78, 84, 65, 84, 73, 79, 78] hl (by decide)
  have q18 := lit_no _ _ [73, 77, 80, 79, 82, 84] hl (by decide)
  have q19 := lit_no _ _ [73, 78] hl (by decide)
  have q20 : (s.toList == [76, 79, 79, 80]) = true := by rw [hl]; decide
  clear hl h
  go_enter Tryz.func10, Tryz.ntmps10
  go_wp2_with fail
  go_ret
  exact ⟨rfl, rfl⟩
theorem zw_21 (s : ByteArray) (h : s.data.toList = [77, 79, 68]) (w : World) :
    Calls Tryz.prog 10 #[.string s] w fun e w' => e = .returned (.bool true) ∧ w' = w := by
  have hl : s.toList = [77, 79, 68] := (ByteArray.toList_eq s).trans h
  have q0 := lit_no _ _ [65, 78, 68] hl (by decide)
  have q1 := lit_no _ _ [65, 82, 82, 65, 89] hl (by decide)
  have q2 := lit_no _ _ [66, 69, 71, 73, 78] hl (by decide)
  have q3 := lit_no _ _ [66, 89] hl (by decide)
  have q4 := lit_no _ _ [67, 65, 83, 69] hl (by decide)
  have q5 := lit_no _ _ [67, 79, 78, 83, 84] hl (by decide)
  have q6 := lit_no _ _ [68, 69, 70, 73, 78, 73, 84, 73, 79, 78] hl (by decide)
  have q7 := lit_no _ _ [68, 73, 86] hl (by decide)
  have q8 := lit_no _ _ [68, 79] hl (by decide)
  have q9 := lit_no _ _ [69, 76, 83, 69] hl (by decide)
  have q10 := lit_no _ _ [69, 76, 83, 73, 70] hl (by decide)
  have q11 := lit_no _ _ [69, 78, 68] hl (by decide)
  have q12 := lit_no _ _ [69, 88, 73, 84] hl (by decide)
  have q13 := lit_no _ _ [69, 88, 80, 79, 82, 84] hl (by decide)
  have q14 := lit_no _ _ [70, 79, 82] hl (by decide)
  have q15 := lit_no _ _ [70, 82, 79, 77] hl (by decide)
  have q16 := lit_no _ _ [73, 70] hl (by decide)
  have q17 := lit_no _ _ [73, 77, 80, 76, 69, 77, 69, 78, 84, 65, 84, 73, 79, 78] hl (by decide)
  have q18 := lit_no _ _ [73, 77, 80, 79, 82, 84] hl (by decide)
  have q19 := lit_no _ _ [73, 78] hl (by decide)
  have q20 := lit_no _ _ [76, 79, 79, 80] hl (by decide)
  have q21 : (s.toList == [77, 79, 68]) = true := by rw [hl]; decide
  clear hl h
  go_enter Tryz.func10, Tryz.ntmps10
  go_wp2_with fail
  go_ret
  exact ⟨rfl, rfl⟩
theorem zw_22 (s : ByteArray) (h : s.data.toList = [77, 79, 68, 85, 76, 69]) (w : World) :
    Calls Tryz.prog 10 #[.string s] w fun e w' => e = .returned (.bool true) ∧ w' = w := by
  have hl : s.toList = [77, 79, 68, 85, 76, 69] := (ByteArray.toList_eq s).trans h
  have q0 := lit_no _ _ [65, 78, 68] hl (by decide)
  have q1 := lit_no _ _ [65, 82, 82, 65, 89] hl (by decide)
  have q2 := lit_no _ _ [66, 69, 71, 73, 78] hl (by decide)
  have q3 := lit_no _ _ [66, 89] hl (by decide)
  have q4 := lit_no _ _ [67, 65, 83, 69] hl (by decide)
  have q5 := lit_no _ _ [67, 79, 78, 83, 84] hl (by decide)
  have q6 := lit_no _ _ [68, 69, 70, 73, 78, 73, 84, 73, 79, 78] hl (by decide)
  have q7 := lit_no _ _ [68, 73, 86] hl (by decide)
  have q8 := lit_no _ _ [68, 79] hl (by decide)
  have q9 := lit_no _ _ [69, 76, 83, 69] hl (by decide)
  have q10 := lit_no _ _ [69, 76, 83, 73, 70] hl (by decide)
  have q11 := lit_no _ _ [69, 78, 68] hl (by decide)
  have q12 := lit_no _ _ [69, 88, 73, 84] hl (by decide)
  have q13 := lit_no _ _ [69, 88, 80, 79, 82, 84] hl (by decide)
  have q14 := lit_no _ _ [70, 79, 82] hl (by decide)
  have q15 := lit_no _ _ [70, 82, 79, 77] hl (by decide)
  have q16 := lit_no _ _ [73, 70] hl (by decide)
  have q17 := lit_no _ _ [73, 77, 80, 76, 69, 77, 69, 78, 84, 65, 84, 73, 79, 78] hl (by decide)
  have q18 := lit_no _ _ [73, 77, 80, 79, 82, 84] hl (by decide)
  have q19 := lit_no _ _ [73, 78] hl (by decide)
  have q20 := lit_no _ _ [76, 79, 79, 80] hl (by decide)
  have q21 := lit_no _ _ [77, 79, 68] hl (by decide)
  have q22 : (s.toList == [77, 79, 68, 85, 76, 69]) = true := by rw [hl]; decide
  clear hl h
  go_enter Tryz.func10, Tryz.ntmps10
  go_wp2_with fail
  go_ret
  exact ⟨rfl, rfl⟩
theorem zw_23 (s : ByteArray) (h : s.data.toList = [78, 79, 84]) (w : World) :
    Calls Tryz.prog 10 #[.string s] w fun e w' => e = .returned (.bool true) ∧ w' = w := by
  have hl : s.toList = [78, 79, 84] := (ByteArray.toList_eq s).trans h
  have q0 := lit_no _ _ [65, 78, 68] hl (by decide)
  have q1 := lit_no _ _ [65, 82, 82, 65, 89] hl (by decide)
  have q2 := lit_no _ _ [66, 69, 71, 73, 78] hl (by decide)
  have q3 := lit_no _ _ [66, 89] hl (by decide)
  have q4 := lit_no _ _ [67, 65, 83, 69] hl (by decide)
  have q5 := lit_no _ _ [67, 79, 78, 83, 84] hl (by decide)
  have q6 := lit_no _ _ [68, 69, 70, 73, 78, 73, 84, 73, 79, 78] hl (by decide)
  have q7 := lit_no _ _ [68, 73, 86] hl (by decide)
  have q8 := lit_no _ _ [68, 79] hl (by decide)
  have q9 := lit_no _ _ [69, 76, 83, 69] hl (by decide)
  have q10 := lit_no _ _ [69, 76, 83, 73, 70] hl (by decide)
  have q11 := lit_no _ _ [69, 78, 68] hl (by decide)
  have q12 := lit_no _ _ [69, 88, 73, 84] hl (by decide)
  have q13 := lit_no _ _ [69, 88, 80, 79, 82, 84] hl (by decide)
  have q14 := lit_no _ _ [70, 79, 82] hl (by decide)
  have q15 := lit_no _ _ [70, 82, 79, 77] hl (by decide)
  have q16 := lit_no _ _ [73, 70] hl (by decide)
  have q17 := lit_no _ _ [73, 77, 80, 76, 69, 77, 69, 78, 84, 65, 84, 73, 79, 78] hl (by decide)
  have q18 := lit_no _ _ [73, 77, 80, 79, 82, 84] hl (by decide)
  have q19 := lit_no _ _ [73, 78] hl (by decide)
  have q20 := lit_no _ _ [76, 79, 79, 80] hl (by decide)
  have q21 := lit_no _ _ [77, 79, 68] hl (by decide)
  have q22 := lit_no _ _ [77, 79, 68, 85, 76, 69] hl (by decide)
  have q23 : (s.toList == [78, 79, 84]) = true := by rw [hl]; decide
  clear hl h
  go_enter Tryz.func10, Tryz.ntmps10
  go_wp2_with fail
  go_ret
  exact ⟨rfl, rfl⟩
theorem zw_24 (s : ByteArray) (h : s.data.toList = [79, 70]) (w : World) :
    Calls Tryz.prog 10 #[.string s] w fun e w' => e = .returned (.bool true) ∧ w' = w := by
  have hl : s.toList = [79, 70] := (ByteArray.toList_eq s).trans h
  have q0 := lit_no _ _ [65, 78, 68] hl (by decide)
  have q1 := lit_no _ _ [65, 82, 82, 65, 89] hl (by decide)
  have q2 := lit_no _ _ [66, 69, 71, 73, 78] hl (by decide)
  have q3 := lit_no _ _ [66, 89] hl (by decide)
  have q4 := lit_no _ _ [67, 65, 83, 69] hl (by decide)
  have q5 := lit_no _ _ [67, 79, 78, 83, 84] hl (by decide)
  have q6 := lit_no _ _ [68, 69, 70, 73, 78, 73, 84, 73, 79, 78] hl (by decide)
  have q7 := lit_no _ _ [68, 73, 86] hl (by decide)
  have q8 := lit_no _ _ [68, 79] hl (by decide)
  have q9 := lit_no _ _ [69, 76, 83, 69] hl (by decide)
  have q10 := lit_no _ _ [69, 76, 83, 73, 70] hl (by decide)
  have q11 := lit_no _ _ [69, 78, 68] hl (by decide)
  have q12 := lit_no _ _ [69, 88, 73, 84] hl (by decide)
  have q13 := lit_no _ _ [69, 88, 80, 79, 82, 84] hl (by decide)
  have q14 := lit_no _ _ [70, 79, 82] hl (by decide)
  have q15 := lit_no _ _ [70, 82, 79, 77] hl (by decide)
  have q16 := lit_no _ _ [73, 70] hl (by decide)
  have q17 := lit_no _ _ [73, 77, 80, 76, 69, 77, 69, 78, 84, 65, 84, 73, 79, 78] hl (by decide)
  have q18 := lit_no _ _ [73, 77, 80, 79, 82, 84] hl (by decide)
  have q19 := lit_no _ _ [73, 78] hl (by decide)
  have q20 := lit_no _ _ [76, 79, 79, 80] hl (by decide)
  have q21 := lit_no _ _ [77, 79, 68] hl (by decide)
  have q22 := lit_no _ _ [77, 79, 68, 85, 76, 69] hl (by decide)
  have q23 := lit_no _ _ [78, 79, 84] hl (by decide)
  have q24 : (s.toList == [79, 70]) = true := by rw [hl]; decide
  clear hl h
  go_enter Tryz.func10, Tryz.ntmps10
  go_wp2_with fail
  go_ret
  exact ⟨rfl, rfl⟩
theorem zw_25 (s : ByteArray) (h : s.data.toList = [79, 82]) (w : World) :
    Calls Tryz.prog 10 #[.string s] w fun e w' => e = .returned (.bool true) ∧ w' = w := by
  have hl : s.toList = [79, 82] := (ByteArray.toList_eq s).trans h
  have q0 := lit_no _ _ [65, 78, 68] hl (by decide)
  have q1 := lit_no _ _ [65, 82, 82, 65, 89] hl (by decide)
  have q2 := lit_no _ _ [66, 69, 71, 73, 78] hl (by decide)
  have q3 := lit_no _ _ [66, 89] hl (by decide)
  have q4 := lit_no _ _ [67, 65, 83, 69] hl (by decide)
  have q5 := lit_no _ _ [67, 79, 78, 83, 84] hl (by decide)
  have q6 := lit_no _ _ [68, 69, 70, 73, 78, 73, 84, 73, 79, 78] hl (by decide)
  have q7 := lit_no _ _ [68, 73, 86] hl (by decide)
  have q8 := lit_no _ _ [68, 79] hl (by decide)
  have q9 := lit_no _ _ [69, 76, 83, 69] hl (by decide)
  have q10 := lit_no _ _ [69, 76, 83, 73, 70] hl (by decide)
  have q11 := lit_no _ _ [69, 78, 68] hl (by decide)
  have q12 := lit_no _ _ [69, 88, 73, 84] hl (by decide)
  have q13 := lit_no _ _ [69, 88, 80, 79, 82, 84] hl (by decide)
  have q14 := lit_no _ _ [70, 79, 82] hl (by decide)
  have q15 := lit_no _ _ [70, 82, 79, 77] hl (by decide)
  have q16 := lit_no _ _ [73, 70] hl (by decide)
  have q17 := lit_no _ _ [73, 77, 80, 76, 69, 77, 69, 78, 84, 65, 84, 73, 79, 78] hl (by decide)
  have q18 := lit_no _ _ [73, 77, 80, 79, 82, 84] hl (by decide)
  have q19 := lit_no _ _ [73, 78] hl (by decide)
  have q20 := lit_no _ _ [76, 79, 79, 80] hl (by decide)
  have q21 := lit_no _ _ [77, 79, 68] hl (by decide)
  have q22 := lit_no _ _ [77, 79, 68, 85, 76, 69] hl (by decide)
  have q23 := lit_no _ _ [78, 79, 84] hl (by decide)
  have q24 := lit_no _ _ [79, 70] hl (by decide)
  have q25 : (s.toList == [79, 82]) = true := by rw [hl]; decide
  clear hl h
  go_enter Tryz.func10, Tryz.ntmps10
  go_wp2_with fail
  go_ret
  exact ⟨rfl, rfl⟩
theorem zw_26 (s : ByteArray) (h : s.data.toList = [80, 79, 73, 78, 84, 69, 82]) (w : World) :
    Calls Tryz.prog 10 #[.string s] w fun e w' => e = .returned (.bool true) ∧ w' = w := by
  have hl : s.toList = [80, 79, 73, 78, 84, 69, 82] := (ByteArray.toList_eq s).trans h
  have q0 := lit_no _ _ [65, 78, 68] hl (by decide)
  have q1 := lit_no _ _ [65, 82, 82, 65, 89] hl (by decide)
  have q2 := lit_no _ _ [66, 69, 71, 73, 78] hl (by decide)
  have q3 := lit_no _ _ [66, 89] hl (by decide)
  have q4 := lit_no _ _ [67, 65, 83, 69] hl (by decide)
  have q5 := lit_no _ _ [67, 79, 78, 83, 84] hl (by decide)
  have q6 := lit_no _ _ [68, 69, 70, 73, 78, 73, 84, 73, 79, 78] hl (by decide)
  have q7 := lit_no _ _ [68, 73, 86] hl (by decide)
  have q8 := lit_no _ _ [68, 79] hl (by decide)
  have q9 := lit_no _ _ [69, 76, 83, 69] hl (by decide)
  have q10 := lit_no _ _ [69, 76, 83, 73, 70] hl (by decide)
  have q11 := lit_no _ _ [69, 78, 68] hl (by decide)
  have q12 := lit_no _ _ [69, 88, 73, 84] hl (by decide)
  have q13 := lit_no _ _ [69, 88, 80, 79, 82, 84] hl (by decide)
  have q14 := lit_no _ _ [70, 79, 82] hl (by decide)
  have q15 := lit_no _ _ [70, 82, 79, 77] hl (by decide)
  have q16 := lit_no _ _ [73, 70] hl (by decide)
  have q17 := lit_no _ _ [73, 77, 80, 76, 69, 77, 69, 78, 84, 65, 84, 73, 79, 78] hl (by decide)
  have q18 := lit_no _ _ [73, 77, 80, 79, 82, 84] hl (by decide)
  have q19 := lit_no _ _ [73, 78] hl (by decide)
  have q20 := lit_no _ _ [76, 79, 79, 80] hl (by decide)
  have q21 := lit_no _ _ [77, 79, 68] hl (by decide)
  have q22 := lit_no _ _ [77, 79, 68, 85, 76, 69] hl (by decide)
  have q23 := lit_no _ _ [78, 79, 84] hl (by decide)
  have q24 := lit_no _ _ [79, 70] hl (by decide)
  have q25 := lit_no _ _ [79, 82] hl (by decide)
  have q26 : (s.toList == [80, 79, 73, 78, 84, 69, 82]) = true := by rw [hl]; decide
  clear hl h
  go_enter Tryz.func10, Tryz.ntmps10
  go_wp2_with fail
  go_ret
  exact ⟨rfl, rfl⟩
theorem zw_27 (s : ByteArray) (h : s.data.toList = [80, 82, 79, 67, 69, 68, 85, 82, 69]) (w : World) :
    Calls Tryz.prog 10 #[.string s] w fun e w' => e = .returned (.bool true) ∧ w' = w := by
  have hl : s.toList = [80, 82, 79, 67, 69, 68, 85, 82, 69] := (ByteArray.toList_eq s).trans h
  have q0 := lit_no _ _ [65, 78, 68] hl (by decide)
  have q1 := lit_no _ _ [65, 82, 82, 65, 89] hl (by decide)
  have q2 := lit_no _ _ [66, 69, 71, 73, 78] hl (by decide)
  have q3 := lit_no _ _ [66, 89] hl (by decide)
  have q4 := lit_no _ _ [67, 65, 83, 69] hl (by decide)
  have q5 := lit_no _ _ [67, 79, 78, 83, 84] hl (by decide)
  have q6 := lit_no _ _ [68, 69, 70, 73, 78, 73, 84, 73, 79, 78] hl (by decide)
  have q7 := lit_no _ _ [68, 73, 86] hl (by decide)
  have q8 := lit_no _ _ [68, 79] hl (by decide)
  have q9 := lit_no _ _ [69, 76, 83, 69] hl (by decide)
  have q10 := lit_no _ _ [69, 76, 83, 73, 70] hl (by decide)
  have q11 := lit_no _ _ [69, 78, 68] hl (by decide)
  have q12 := lit_no _ _ [69, 88, 73, 84] hl (by decide)
  have q13 := lit_no _ _ [69, 88, 80, 79, 82, 84] hl (by decide)
  have q14 := lit_no _ _ [70, 79, 82] hl (by decide)
  have q15 := lit_no _ _ [70, 82, 79, 77] hl (by decide)
  have q16 := lit_no _ _ [73, 70] hl (by decide)
  have q17 := lit_no _ _ [73, 77, 80, 76, 69, 77, 69, 78, 84, 65, 84, 73, 79, 78] hl (by decide)
  have q18 := lit_no _ _ [73, 77, 80, 79, 82, 84] hl (by decide)
  have q19 := lit_no _ _ [73, 78] hl (by decide)
  have q20 := lit_no _ _ [76, 79, 79, 80] hl (by decide)
  have q21 := lit_no _ _ [77, 79, 68] hl (by decide)
  have q22 := lit_no _ _ [77, 79, 68, 85, 76, 69] hl (by decide)
  have q23 := lit_no _ _ [78, 79, 84] hl (by decide)
  have q24 := lit_no _ _ [79, 70] hl (by decide)
  have q25 := lit_no _ _ [79, 82] hl (by decide)
  have q26 := lit_no _ _ [80, 79, 73, 78, 84, 69, 82] hl (by decide)
  have q27 : (s.toList == [80, 82, 79, 67, 69, 68, 85, 82, 69]) = true := by rw [hl]; decide
  clear hl h
  go_enter Tryz.func10, Tryz.ntmps10
  go_wp2_with fail
  go_ret
  exact ⟨rfl, rfl⟩
theorem zw_28 (s : ByteArray) (h : s.data.toList = [81, 85, 65, 76, 73, 70, 73, 69, 68]) (w : World) :
    Calls Tryz.prog 10 #[.string s] w fun e w' => e = .returned (.bool true) ∧ w' = w := by
  have hl : s.toList = [81, 85, 65, 76, 73, 70, 73, 69, 68] := (ByteArray.toList_eq s).trans h
  have q0 := lit_no _ _ [65, 78, 68] hl (by decide)
  have q1 := lit_no _ _ [65, 82, 82, 65, 89] hl (by decide)
  have q2 := lit_no _ _ [66, 69, 71, 73, 78] hl (by decide)
  have q3 := lit_no _ _ [66, 89] hl (by decide)
  have q4 := lit_no _ _ [67, 65, 83, 69] hl (by decide)
  have q5 := lit_no _ _ [67, 79, 78, 83, 84] hl (by decide)
  have q6 := lit_no _ _ [68, 69, 70, 73, 78, 73, 84, 73, 79, 78] hl (by decide)
  have q7 := lit_no _ _ [68, 73, 86] hl (by decide)
  have q8 := lit_no _ _ [68, 79] hl (by decide)
  have q9 := lit_no _ _ [69, 76, 83, 69] hl (by decide)
  have q10 := lit_no _ _ [69, 76, 83, 73, 70] hl (by decide)
  have q11 := lit_no _ _ [69, 78, 68] hl (by decide)
  have q12 := lit_no _ _ [69, 88, 73, 84] hl (by decide)
  have q13 := lit_no _ _ [69, 88, 80, 79, 82, 84] hl (by decide)
  have q14 := lit_no _ _ [70, 79, 82] hl (by decide)
  have q15 := lit_no _ _ [70, 82, 79, 77] hl (by decide)
  have q16 := lit_no _ _ [73, 70] hl (by decide)
  have q17 := lit_no _ _ [73, 77, 80, 76, 69, 77, 69, 78, 84, 65, 84, 73, 79, 78] hl (by decide)
  have q18 := lit_no _ _ [73, 77, 80, 79, 82, 84] hl (by decide)
  have q19 := lit_no _ _ [73, 78] hl (by decide)
  have q20 := lit_no _ _ [76, 79, 79, 80] hl (by decide)
  have q21 := lit_no _ _ [77, 79, 68] hl (by decide)
  have q22 := lit_no _ _ [77, 79, 68, 85, 76, 69] hl (by decide)
  have q23 := lit_no _ _ [78, 79, 84] hl (by decide)
  have q24 := lit_no _ _ [79, 70] hl (by decide)
  have q25 := lit_no _ _ [79, 82] hl (by decide)
  have q26 := lit_no _ _ [80, 79, 73, 78, 84, 69, 82] hl (by decide)
  have q27 := lit_no _ _ [80, 82, 79, 67, 69, 68, 85, 82, 69] hl (by decide)
  have q28 : (s.toList == [81, 85, 65, 76, 73, 70, 73, 69, 68]) = true := by rw [hl]; decide
  clear hl h
  go_enter Tryz.func10, Tryz.ntmps10
  go_wp2_with fail
  go_ret
  exact ⟨rfl, rfl⟩
theorem zw_29 (s : ByteArray) (h : s.data.toList = [82, 69, 67, 79, 82, 68]) (w : World) :
    Calls Tryz.prog 10 #[.string s] w fun e w' => e = .returned (.bool true) ∧ w' = w := by
  have hl : s.toList = [82, 69, 67, 79, 82, 68] := (ByteArray.toList_eq s).trans h
  have q0 := lit_no _ _ [65, 78, 68] hl (by decide)
  have q1 := lit_no _ _ [65, 82, 82, 65, 89] hl (by decide)
  have q2 := lit_no _ _ [66, 69, 71, 73, 78] hl (by decide)
  have q3 := lit_no _ _ [66, 89] hl (by decide)
  have q4 := lit_no _ _ [67, 65, 83, 69] hl (by decide)
  have q5 := lit_no _ _ [67, 79, 78, 83, 84] hl (by decide)
  have q6 := lit_no _ _ [68, 69, 70, 73, 78, 73, 84, 73, 79, 78] hl (by decide)
  have q7 := lit_no _ _ [68, 73, 86] hl (by decide)
  have q8 := lit_no _ _ [68, 79] hl (by decide)
  have q9 := lit_no _ _ [69, 76, 83, 69] hl (by decide)
  have q10 := lit_no _ _ [69, 76, 83, 73, 70] hl (by decide)
  have q11 := lit_no _ _ [69, 78, 68] hl (by decide)
  have q12 := lit_no _ _ [69, 88, 73, 84] hl (by decide)
  have q13 := lit_no _ _ [69, 88, 80, 79, 82, 84] hl (by decide)
  have q14 := lit_no _ _ [70, 79, 82] hl (by decide)
  have q15 := lit_no _ _ [70, 82, 79, 77] hl (by decide)
  have q16 := lit_no _ _ [73, 70] hl (by decide)
  have q17 := lit_no _ _ [73, 77, 80, 76, 69, 77, 69, 78, 84, 65, 84, 73, 79, 78] hl (by decide)
  have q18 := lit_no _ _ [73, 77, 80, 79, 82, 84] hl (by decide)
  have q19 := lit_no _ _ [73, 78] hl (by decide)
  have q20 := lit_no _ _ [76, 79, 79, 80] hl (by decide)
  have q21 := lit_no _ _ [77, 79, 68] hl (by decide)
  have q22 := lit_no _ _ [77, 79, 68, 85, 76, 69] hl (by decide)
  have q23 := lit_no _ _ [78, 79, 84] hl (by decide)
  have q24 := lit_no _ _ [79, 70] hl (by decide)
  have q25 := lit_no _ _ [79, 82] hl (by decide)
  have q26 := lit_no _ _ [80, 79, 73, 78, 84, 69, 82] hl (by decide)
  have q27 := lit_no _ _ [80, 82, 79, 67, 69, 68, 85, 82, 69] hl (by decide)
  have q28 := lit_no _ _ [81, 85, 65, 76, 73, 70, 73, 69, 68] hl (by decide)
  have q29 : (s.toList == [82, 69, 67, 79, 82, 68]) = true := by rw [hl]; decide
  clear hl h
  go_enter Tryz.func10, Tryz.ntmps10
  go_wp2_with fail
  go_ret
  exact ⟨rfl, rfl⟩
theorem zw_30 (s : ByteArray) (h : s.data.toList = [82, 69, 80, 69, 65, 84]) (w : World) :
    Calls Tryz.prog 10 #[.string s] w fun e w' => e = .returned (.bool true) ∧ w' = w := by
  have hl : s.toList = [82, 69, 80, 69, 65, 84] := (ByteArray.toList_eq s).trans h
  have q0 := lit_no _ _ [65, 78, 68] hl (by decide)
  have q1 := lit_no _ _ [65, 82, 82, 65, 89] hl (by decide)
  have q2 := lit_no _ _ [66, 69, 71, 73, 78] hl (by decide)
  have q3 := lit_no _ _ [66, 89] hl (by decide)
  have q4 := lit_no _ _ [67, 65, 83, 69] hl (by decide)
  have q5 := lit_no _ _ [67, 79, 78, 83, 84] hl (by decide)
  have q6 := lit_no _ _ [68, 69, 70, 73, 78, 73, 84, 73, 79, 78] hl (by decide)
  have q7 := lit_no _ _ [68, 73, 86] hl (by decide)
  have q8 := lit_no _ _ [68, 79] hl (by decide)
  have q9 := lit_no _ _ [69, 76, 83, 69] hl (by decide)
  have q10 := lit_no _ _ [69, 76, 83, 73, 70] hl (by decide)
  have q11 := lit_no _ _ [69, 78, 68] hl (by decide)
  have q12 := lit_no _ _ [69, 88, 73, 84] hl (by decide)
  have q13 := lit_no _ _ [69, 88, 80, 79, 82, 84] hl (by decide)
  have q14 := lit_no _ _ [70, 79, 82] hl (by decide)
  have q15 := lit_no _ _ [70, 82, 79, 77] hl (by decide)
  have q16 := lit_no _ _ [73, 70] hl (by decide)
  have q17 := lit_no _ _ [73, 77, 80, 76, 69, 77, 69, 78, 84, 65, 84, 73, 79, 78] hl (by decide)
  have q18 := lit_no _ _ [73, 77, 80, 79, 82, 84] hl (by decide)
  have q19 := lit_no _ _ [73, 78] hl (by decide)
  have q20 := lit_no _ _ [76, 79, 79, 80] hl (by decide)
  have q21 := lit_no _ _ [77, 79, 68] hl (by decide)
  have q22 := lit_no _ _ [77, 79, 68, 85, 76, 69] hl (by decide)
  have q23 := lit_no _ _ [78, 79, 84] hl (by decide)
  have q24 := lit_no _ _ [79, 70] hl (by decide)
  have q25 := lit_no _ _ [79, 82] hl (by decide)
  have q26 := lit_no _ _ [80, 79, 73, 78, 84, 69, 82] hl (by decide)
  have q27 := lit_no _ _ [80, 82, 79, 67, 69, 68, 85, 82, 69] hl (by decide)
  have q28 := lit_no _ _ [81, 85, 65, 76, 73, 70, 73, 69, 68] hl (by decide)
  have q29 := lit_no _ _ [82, 69, 67, 79, 82, 68] hl (by decide)
  have q30 : (s.toList == [82, 69, 80, 69, 65, 84]) = true := by rw [hl]; decide
  clear hl h
  go_enter Tryz.func10, Tryz.ntmps10
  go_wp2_with fail
  go_ret
  exact ⟨rfl, rfl⟩
theorem zw_31 (s : ByteArray) (h : s.data.toList = [82, 69, 84, 85, 82, 78]) (w : World) :
    Calls Tryz.prog 10 #[.string s] w fun e w' => e = .returned (.bool true) ∧ w' = w := by
  have hl : s.toList = [82, 69, 84, 85, 82, 78] := (ByteArray.toList_eq s).trans h
  have q0 := lit_no _ _ [65, 78, 68] hl (by decide)
  have q1 := lit_no _ _ [65, 82, 82, 65, 89] hl (by decide)
  have q2 := lit_no _ _ [66, 69, 71, 73, 78] hl (by decide)
  have q3 := lit_no _ _ [66, 89] hl (by decide)
  have q4 := lit_no _ _ [67, 65, 83, 69] hl (by decide)
  have q5 := lit_no _ _ [67, 79, 78, 83, 84] hl (by decide)
  have q6 := lit_no _ _ [68, 69, 70, 73, 78, 73, 84, 73, 79, 78] hl (by decide)
  have q7 := lit_no _ _ [68, 73, 86] hl (by decide)
  have q8 := lit_no _ _ [68, 79] hl (by decide)
  have q9 := lit_no _ _ [69, 76, 83, 69] hl (by decide)
  have q10 := lit_no _ _ [69, 76, 83, 73, 70] hl (by decide)
  have q11 := lit_no _ _ [69, 78, 68] hl (by decide)
  have q12 := lit_no _ _ [69, 88, 73, 84] hl (by decide)
  have q13 := lit_no _ _ [69, 88, 80, 79, 82, 84] hl (by decide)
  have q14 := lit_no _ _ [70, 79, 82] hl (by decide)
  have q15 := lit_no _ _ [70, 82, 79, 77] hl (by decide)
  have q16 := lit_no _ _ [73, 70] hl (by decide)
  have q17 := lit_no _ _ [73, 77, 80, 76, 69, 77, 69, 78, 84, 65, 84, 73, 79, 78] hl (by decide)
  have q18 := lit_no _ _ [73, 77, 80, 79, 82, 84] hl (by decide)
  have q19 := lit_no _ _ [73, 78] hl (by decide)
  have q20 := lit_no _ _ [76, 79, 79, 80] hl (by decide)
  have q21 := lit_no _ _ [77, 79, 68] hl (by decide)
  have q22 := lit_no _ _ [77, 79, 68, 85, 76, 69] hl (by decide)
  have q23 := lit_no _ _ [78, 79, 84] hl (by decide)
  have q24 := lit_no _ _ [79, 70] hl (by decide)
  have q25 := lit_no _ _ [79, 82] hl (by decide)
  have q26 := lit_no _ _ [80, 79, 73, 78, 84, 69, 82] hl (by decide)
  have q27 := lit_no _ _ [80, 82, 79, 67, 69, 68, 85, 82, 69] hl (by decide)
  have q28 := lit_no _ _ [81, 85, 65, 76, 73, 70, 73, 69, 68] hl (by decide)
  have q29 := lit_no _ _ [82, 69, 67, 79, 82, 68] hl (by decide)
  have q30 := lit_no _ _ [82, 69, 80, 69, 65, 84] hl (by decide)
  have q31 : (s.toList == [82, 69, 84, 85, 82, 78]) = true := by rw [hl]; decide
  clear hl h
  go_enter Tryz.func10, Tryz.ntmps10
  go_wp2_with fail
  go_ret
  exact ⟨rfl, rfl⟩
theorem zw_32 (s : ByteArray) (h : s.data.toList = [83, 69, 84]) (w : World) :
    Calls Tryz.prog 10 #[.string s] w fun e w' => e = .returned (.bool true) ∧ w' = w := by
  have hl : s.toList = [83, 69, 84] := (ByteArray.toList_eq s).trans h
  have q0 := lit_no _ _ [65, 78, 68] hl (by decide)
  have q1 := lit_no _ _ [65, 82, 82, 65, 89] hl (by decide)
  have q2 := lit_no _ _ [66, 69, 71, 73, 78] hl (by decide)
  have q3 := lit_no _ _ [66, 89] hl (by decide)
  have q4 := lit_no _ _ [67, 65, 83, 69] hl (by decide)
  have q5 := lit_no _ _ [67, 79, 78, 83, 84] hl (by decide)
  have q6 := lit_no _ _ [68, 69, 70, 73, 78, 73, 84, 73, 79, 78] hl (by decide)
  have q7 := lit_no _ _ [68, 73, 86] hl (by decide)
  have q8 := lit_no _ _ [68, 79] hl (by decide)
  have q9 := lit_no _ _ [69, 76, 83, 69] hl (by decide)
  have q10 := lit_no _ _ [69, 76, 83, 73, 70] hl (by decide)
  have q11 := lit_no _ _ [69, 78, 68] hl (by decide)
  have q12 := lit_no _ _ [69, 88, 73, 84] hl (by decide)
  have q13 := lit_no _ _ [69, 88, 80, 79, 82, 84] hl (by decide)
  have q14 := lit_no _ _ [70, 79, 82] hl (by decide)
  have q15 := lit_no _ _ [70, 82, 79, 77] hl (by decide)
  have q16 := lit_no _ _ [73, 70] hl (by decide)
  have q17 := lit_no _ _ [73, 77, 80, 76, 69, 77, 69, 78, 84, 65, 84, 73, 79, 78] hl (by decide)
  have q18 := lit_no _ _ [73, 77, 80, 79, 82, 84] hl (by decide)
  have q19 := lit_no _ _ [73, 78] hl (by decide)
  have q20 := lit_no _ _ [76, 79, 79, 80] hl (by decide)
  have q21 := lit_no _ _ [77, 79, 68] hl (by decide)
  have q22 := lit_no _ _ [77, 79, 68, 85, 76, 69] hl (by decide)
  have q23 := lit_no _ _ [78, 79, 84] hl (by decide)
  have q24 := lit_no _ _ [79, 70] hl (by decide)
  have q25 := lit_no _ _ [79, 82] hl (by decide)
  have q26 := lit_no _ _ [80, 79, 73, 78, 84, 69, 82] hl (by decide)
  have q27 := lit_no _ _ [80, 82, 79, 67, 69, 68, 85, 82, 69] hl (by decide)
  have q28 := lit_no _ _ [81, 85, 65, 76, 73, 70, 73, 69, 68] hl (by decide)
  have q29 := lit_no _ _ [82, 69, 67, 79, 82, 68] hl (by decide)
  have q30 := lit_no _ _ [82, 69, 80, 69, 65, 84] hl (by decide)
  have q31 := lit_no _ _ [82, 69, 84, 85, 82, 78] hl (by decide)
  have q32 : (s.toList == [83, 69, 84]) = true := by rw [hl]; decide
  clear hl h
  go_enter Tryz.func10, Tryz.ntmps10
  go_wp2_with fail
  go_ret
  exact ⟨rfl, rfl⟩
theorem zw_33 (s : ByteArray) (h : s.data.toList = [84, 72, 69, 78]) (w : World) :
    Calls Tryz.prog 10 #[.string s] w fun e w' => e = .returned (.bool true) ∧ w' = w := by
  have hl : s.toList = [84, 72, 69, 78] := (ByteArray.toList_eq s).trans h
  have q0 := lit_no _ _ [65, 78, 68] hl (by decide)
  have q1 := lit_no _ _ [65, 82, 82, 65, 89] hl (by decide)
  have q2 := lit_no _ _ [66, 69, 71, 73, 78] hl (by decide)
  have q3 := lit_no _ _ [66, 89] hl (by decide)
  have q4 := lit_no _ _ [67, 65, 83, 69] hl (by decide)
  have q5 := lit_no _ _ [67, 79, 78, 83, 84] hl (by decide)
  have q6 := lit_no _ _ [68, 69, 70, 73, 78, 73, 84, 73, 79, 78] hl (by decide)
  have q7 := lit_no _ _ [68, 73, 86] hl (by decide)
  have q8 := lit_no _ _ [68, 79] hl (by decide)
  have q9 := lit_no _ _ [69, 76, 83, 69] hl (by decide)
  have q10 := lit_no _ _ [69, 76, 83, 73, 70] hl (by decide)
  have q11 := lit_no _ _ [69, 78, 68] hl (by decide)
  have q12 := lit_no _ _ [69, 88, 73, 84] hl (by decide)
  have q13 := lit_no _ _ [69, 88, 80, 79, 82, 84] hl (by decide)
  have q14 := lit_no _ _ [70, 79, 82] hl (by decide)
  have q15 := lit_no _ _ [70, 82, 79, 77] hl (by decide)
  have q16 := lit_no _ _ [73, 70] hl (by decide)
  have q17 := lit_no _ _ [73, 77, 80, 76, 69, 77, 69, 78, 84, 65, 84, 73, 79, 78] hl (by decide)
  have q18 := lit_no _ _ [73, 77, 80, 79, 82, 84] hl (by decide)
  have q19 := lit_no _ _ [73, 78] hl (by decide)
  have q20 := lit_no _ _ [76, 79, 79, 80] hl (by decide)
  have q21 := lit_no _ _ [77, 79, 68] hl (by decide)
  have q22 := lit_no _ _ [77, 79, 68, 85, 76, 69] hl (by decide)
  have q23 := lit_no _ _ [78, 79, 84] hl (by decide)
  have q24 := lit_no _ _ [79, 70] hl (by decide)
  have q25 := lit_no _ _ [79, 82] hl (by decide)
  have q26 := lit_no _ _ [80, 79, 73, 78, 84, 69, 82] hl (by decide)
  have q27 := lit_no _ _ [80, 82, 79, 67, 69, 68, 85, 82, 69] hl (by decide)
  have q28 := lit_no _ _ [81, 85, 65, 76, 73, 70, 73, 69, 68] hl (by decide)
  have q29 := lit_no _ _ [82, 69, 67, 79, 82, 68] hl (by decide)
  have q30 := lit_no _ _ [82, 69, 80, 69, 65, 84] hl (by decide)
  have q31 := lit_no _ _ [82, 69, 84, 85, 82, 78] hl (by decide)
  have q32 := lit_no _ _ [83, 69, 84] hl (by decide)
  have q33 : (s.toList == [84, 72, 69, 78]) = true := by rw [hl]; decide
  clear hl h
  go_enter Tryz.func10, Tryz.ntmps10
  go_wp2_with fail
  go_ret
  exact ⟨rfl, rfl⟩
theorem zw_34 (s : ByteArray) (h : s.data.toList = [84, 79]) (w : World) :
    Calls Tryz.prog 10 #[.string s] w fun e w' => e = .returned (.bool true) ∧ w' = w := by
  have hl : s.toList = [84, 79] := (ByteArray.toList_eq s).trans h
  have q0 := lit_no _ _ [65, 78, 68] hl (by decide)
  have q1 := lit_no _ _ [65, 82, 82, 65, 89] hl (by decide)
  have q2 := lit_no _ _ [66, 69, 71, 73, 78] hl (by decide)
  have q3 := lit_no _ _ [66, 89] hl (by decide)
  have q4 := lit_no _ _ [67, 65, 83, 69] hl (by decide)
  have q5 := lit_no _ _ [67, 79, 78, 83, 84] hl (by decide)
  have q6 := lit_no _ _ [68, 69, 70, 73, 78, 73, 84, 73, 79, 78] hl (by decide)
  have q7 := lit_no _ _ [68, 73, 86] hl (by decide)
  have q8 := lit_no _ _ [68, 79] hl (by decide)
  have q9 := lit_no _ _ [69, 76, 83, 69] hl (by decide)
  have q10 := lit_no _ _ [69, 76, 83, 73, 70] hl (by decide)
  have q11 := lit_no _ _ [69, 78, 68] hl (by decide)
  have q12 := lit_no _ _ [69, 88, 73, 84] hl (by decide)
  have q13 := lit_no _ _ [69, 88, 80, 79, 82, 84] hl (by decide)
  have q14 := lit_no _ _ [70, 79, 82] hl (by decide)
  have q15 := lit_no _ _ [70, 82, 79, 77] hl (by decide)
  have q16 := lit_no _ _ [73, 70] hl (by decide)
  have q17 := lit_no _ _ [73, 77, 80, 76, 69, 77, 69, 78, 84, 65, 84, 73, 79, 78] hl (by decide)
  have q18 := lit_no _ _ [73, 77, 80, 79, 82, 84] hl (by decide)
  have q19 := lit_no _ _ [73, 78] hl (by decide)
  have q20 := lit_no _ _ [76, 79, 79, 80] hl (by decide)
  have q21 := lit_no _ _ [77, 79, 68] hl (by decide)
  have q22 := lit_no _ _ [77, 79, 68, 85, 76, 69] hl (by decide)
  have q23 := lit_no _ _ [78, 79, 84] hl (by decide)
  have q24 := lit_no _ _ [79, 70] hl (by decide)
  have q25 := lit_no _ _ [79, 82] hl (by decide)
  have q26 := lit_no _ _ [80, 79, 73, 78, 84, 69, 82] hl (by decide)
  have q27 := lit_no _ _ [80, 82, 79, 67, 69, 68, 85, 82, 69] hl (by decide)
  have q28 := lit_no _ _ [81, 85, 65, 76, 73, 70, 73, 69, 68] hl (by decide)
  have q29 := lit_no _ _ [82, 69, 67, 79, 82, 68] hl (by decide)
  have q30 := lit_no _ _ [82, 69, 80, 69, 65, 84] hl (by decide)
  have q31 := lit_no _ _ [82, 69, 84, 85, 82, 78] hl (by decide)
  have q32 := lit_no _ _ [83, 69, 84] hl (by decide)
  have q33 := lit_no _ _ [84, 72, 69, 78] hl (by decide)
  have q34 : (s.toList == [84, 79]) = true := by rw [hl]; decide
  clear hl h
  go_enter Tryz.func10, Tryz.ntmps10
  go_wp2_with fail
  go_ret
  exact ⟨rfl, rfl⟩
theorem zw_35 (s : ByteArray) (h : s.data.toList = [84, 89, 80, 69]) (w : World) :
    Calls Tryz.prog 10 #[.string s] w fun e w' => e = .returned (.bool true) ∧ w' = w := by
  have hl : s.toList = [84, 89, 80, 69] := (ByteArray.toList_eq s).trans h
  have q0 := lit_no _ _ [65, 78, 68] hl (by decide)
  have q1 := lit_no _ _ [65, 82, 82, 65, 89] hl (by decide)
  have q2 := lit_no _ _ [66, 69, 71, 73, 78] hl (by decide)
  have q3 := lit_no _ _ [66, 89] hl (by decide)
  have q4 := lit_no _ _ [67, 65, 83, 69] hl (by decide)
  have q5 := lit_no _ _ [67, 79, 78, 83, 84] hl (by decide)
  have q6 := lit_no _ _ [68, 69, 70, 73, 78, 73, 84, 73, 79, 78] hl (by decide)
  have q7 := lit_no _ _ [68, 73, 86] hl (by decide)
  have q8 := lit_no _ _ [68, 79] hl (by decide)
  have q9 := lit_no _ _ [69, 76, 83, 69] hl (by decide)
  have q10 := lit_no _ _ [69, 76, 83, 73, 70] hl (by decide)
  have q11 := lit_no _ _ [69, 78, 68] hl (by decide)
  have q12 := lit_no _ _ [69, 88, 73, 84] hl (by decide)
  have q13 := lit_no _ _ [69, 88, 80, 79, 82, 84] hl (by decide)
  have q14 := lit_no _ _ [70, 79, 82] hl (by decide)
  have q15 := lit_no _ _ [70, 82, 79, 77] hl (by decide)
  have q16 := lit_no _ _ [73, 70] hl (by decide)
  have q17 := lit_no _ _ [73, 77, 80, 76, 69, 77, 69, 78, 84, 65, 84, 73, 79, 78] hl (by decide)
  have q18 := lit_no _ _ [73, 77, 80, 79, 82, 84] hl (by decide)
  have q19 := lit_no _ _ [73, 78] hl (by decide)
  have q20 := lit_no _ _ [76, 79, 79, 80] hl (by decide)
  have q21 := lit_no _ _ [77, 79, 68] hl (by decide)
  have q22 := lit_no _ _ [77, 79, 68, 85, 76, 69] hl (by decide)
  have q23 := lit_no _ _ [78, 79, 84] hl (by decide)
  have q24 := lit_no _ _ [79, 70] hl (by decide)
  have q25 := lit_no _ _ [79, 82] hl (by decide)
  have q26 := lit_no _ _ [80, 79, 73, 78, 84, 69, 82] hl (by decide)
  have q27 := lit_no _ _ [80, 82, 79, 67, 69, 68, 85, 82, 69] hl (by decide)
  have q28 := lit_no _ _ [81, 85, 65, 76, 73, 70, 73, 69, 68] hl (by decide)
  have q29 := lit_no _ _ [82, 69, 67, 79, 82, 68] hl (by decide)
  have q30 := lit_no _ _ [82, 69, 80, 69, 65, 84] hl (by decide)
  have q31 := lit_no _ _ [82, 69, 84, 85, 82, 78] hl (by decide)
  have q32 := lit_no _ _ [83, 69, 84] hl (by decide)
  have q33 := lit_no _ _ [84, 72, 69, 78] hl (by decide)
  have q34 := lit_no _ _ [84, 79] hl (by decide)
  have q35 : (s.toList == [84, 89, 80, 69]) = true := by rw [hl]; decide
  clear hl h
  go_enter Tryz.func10, Tryz.ntmps10
  go_wp2_with fail
  go_ret
  exact ⟨rfl, rfl⟩
theorem zw_36 (s : ByteArray) (h : s.data.toList = [85, 78, 84, 73, 76]) (w : World) :
    Calls Tryz.prog 10 #[.string s] w fun e w' => e = .returned (.bool true) ∧ w' = w := by
  have hl : s.toList = [85, 78, 84, 73, 76] := (ByteArray.toList_eq s).trans h
  have q0 := lit_no _ _ [65, 78, 68] hl (by decide)
  have q1 := lit_no _ _ [65, 82, 82, 65, 89] hl (by decide)
  have q2 := lit_no _ _ [66, 69, 71, 73, 78] hl (by decide)
  have q3 := lit_no _ _ [66, 89] hl (by decide)
  have q4 := lit_no _ _ [67, 65, 83, 69] hl (by decide)
  have q5 := lit_no _ _ [67, 79, 78, 83, 84] hl (by decide)
  have q6 := lit_no _ _ [68, 69, 70, 73, 78, 73, 84, 73, 79, 78] hl (by decide)
  have q7 := lit_no _ _ [68, 73, 86] hl (by decide)
  have q8 := lit_no _ _ [68, 79] hl (by decide)
  have q9 := lit_no _ _ [69, 76, 83, 69] hl (by decide)
  have q10 := lit_no _ _ [69, 76, 83, 73, 70] hl (by decide)
  have q11 := lit_no _ _ [69, 78, 68] hl (by decide)
  have q12 := lit_no _ _ [69, 88, 73, 84] hl (by decide)
  have q13 := lit_no _ _ [69, 88, 80, 79, 82, 84] hl (by decide)
  have q14 := lit_no _ _ [70, 79, 82] hl (by decide)
  have q15 := lit_no _ _ [70, 82, 79, 77] hl (by decide)
  have q16 := lit_no _ _ [73, 70] hl (by decide)
  have q17 := lit_no _ _ [73, 77, 80, 76, 69, 77, 69, 78, 84, 65, 84, 73, 79, 78] hl (by decide)
  have q18 := lit_no _ _ [73, 77, 80, 79, 82, 84] hl (by decide)
  have q19 := lit_no _ _ [73, 78] hl (by decide)
  have q20 := lit_no _ _ [76, 79, 79, 80] hl (by decide)
  have q21 := lit_no _ _ [77, 79, 68] hl (by decide)
  have q22 := lit_no _ _ [77, 79, 68, 85, 76, 69] hl (by decide)
  have q23 := lit_no _ _ [78, 79, 84] hl (by decide)
  have q24 := lit_no _ _ [79, 70] hl (by decide)
  have q25 := lit_no _ _ [79, 82] hl (by decide)
  have q26 := lit_no _ _ [80, 79, 73, 78, 84, 69, 82] hl (by decide)
  have q27 := lit_no _ _ [80, 82, 79, 67, 69, 68, 85, 82, 69] hl (by decide)
  have q28 := lit_no _ _ [81, 85, 65, 76, 73, 70, 73, 69, 68] hl (by decide)
  have q29 := lit_no _ _ [82, 69, 67, 79, 82, 68] hl (by decide)
  have q30 := lit_no _ _ [82, 69, 80, 69, 65, 84] hl (by decide)
  have q31 := lit_no _ _ [82, 69, 84, 85, 82, 78] hl (by decide)
  have q32 := lit_no _ _ [83, 69, 84] hl (by decide)
  have q33 := lit_no _ _ [84, 72, 69, 78] hl (by decide)
  have q34 := lit_no _ _ [84, 79] hl (by decide)
  have q35 := lit_no _ _ [84, 89, 80, 69] hl (by decide)
  have q36 : (s.toList == [85, 78, 84, 73, 76]) = true := by rw [hl]; decide
  clear hl h
  go_enter Tryz.func10, Tryz.ntmps10
  go_wp2_with fail
  go_ret
  exact ⟨rfl, rfl⟩
theorem zw_37 (s : ByteArray) (h : s.data.toList = [86, 65, 82]) (w : World) :
    Calls Tryz.prog 10 #[.string s] w fun e w' => e = .returned (.bool true) ∧ w' = w := by
  have hl : s.toList = [86, 65, 82] := (ByteArray.toList_eq s).trans h
  have q0 := lit_no _ _ [65, 78, 68] hl (by decide)
  have q1 := lit_no _ _ [65, 82, 82, 65, 89] hl (by decide)
  have q2 := lit_no _ _ [66, 69, 71, 73, 78] hl (by decide)
  have q3 := lit_no _ _ [66, 89] hl (by decide)
  have q4 := lit_no _ _ [67, 65, 83, 69] hl (by decide)
  have q5 := lit_no _ _ [67, 79, 78, 83, 84] hl (by decide)
  have q6 := lit_no _ _ [68, 69, 70, 73, 78, 73, 84, 73, 79, 78] hl (by decide)
  have q7 := lit_no _ _ [68, 73, 86] hl (by decide)
  have q8 := lit_no _ _ [68, 79] hl (by decide)
  have q9 := lit_no _ _ [69, 76, 83, 69] hl (by decide)
  have q10 := lit_no _ _ [69, 76, 83, 73, 70] hl (by decide)
  have q11 := lit_no _ _ [69, 78, 68] hl (by decide)
  have q12 := lit_no _ _ [69, 88, 73, 84] hl (by decide)
  have q13 := lit_no _ _ [69, 88, 80, 79, 82, 84] hl (by decide)
  have q14 := lit_no _ _ [70, 79, 82] hl (by decide)
  have q15 := lit_no _ _ [70, 82, 79, 77] hl (by decide)
  have q16 := lit_no _ _ [73, 70] hl (by decide)
  have q17 := lit_no _ _ [73, 77, 80, 76, 69, 77, 69, 78, 84, 65, 84, 73, 79, 78] hl (by decide)
  have q18 := lit_no _ _ [73, 77, 80, 79, 82, 84] hl (by decide)
  have q19 := lit_no _ _ [73, 78] hl (by decide)
  have q20 := lit_no _ _ [76, 79, 79, 80] hl (by decide)
  have q21 := lit_no _ _ [77, 79, 68] hl (by decide)
  have q22 := lit_no _ _ [77, 79, 68, 85, 76, 69] hl (by decide)
  have q23 := lit_no _ _ [78, 79, 84] hl (by decide)
  have q24 := lit_no _ _ [79, 70] hl (by decide)
  have q25 := lit_no _ _ [79, 82] hl (by decide)
  have q26 := lit_no _ _ [80, 79, 73, 78, 84, 69, 82] hl (by decide)
  have q27 := lit_no _ _ [80, 82, 79, 67, 69, 68, 85, 82, 69] hl (by decide)
  have q28 := lit_no _ _ [81, 85, 65, 76, 73, 70, 73, 69, 68] hl (by decide)
  have q29 := lit_no _ _ [82, 69, 67, 79, 82, 68] hl (by decide)
  have q30 := lit_no _ _ [82, 69, 80, 69, 65, 84] hl (by decide)
  have q31 := lit_no _ _ [82, 69, 84, 85, 82, 78] hl (by decide)
  have q32 := lit_no _ _ [83, 69, 84] hl (by decide)
  have q33 := lit_no _ _ [84, 72, 69, 78] hl (by decide)
  have q34 := lit_no _ _ [84, 79] hl (by decide)
  have q35 := lit_no _ _ [84, 89, 80, 69] hl (by decide)
  have q36 := lit_no _ _ [85, 78, 84, 73, 76] hl (by decide)
  have q37 : (s.toList == [86, 65, 82]) = true := by rw [hl]; decide
  clear hl h
  go_enter Tryz.func10, Tryz.ntmps10
  go_wp2_with fail
  go_ret
  exact ⟨rfl, rfl⟩
theorem zw_38 (s : ByteArray) (h : s.data.toList = [87, 72, 73, 76, 69]) (w : World) :
    Calls Tryz.prog 10 #[.string s] w fun e w' => e = .returned (.bool true) ∧ w' = w := by
  have hl : s.toList = [87, 72, 73, 76, 69] := (ByteArray.toList_eq s).trans h
  have q0 := lit_no _ _ [65, 78, 68] hl (by decide)
  have q1 := lit_no _ _ [65, 82, 82, 65, 89] hl (by decide)
  have q2 := lit_no _ _ [66, 69, 71, 73, 78] hl (by decide)
  have q3 := lit_no _ _ [66, 89] hl (by decide)
  have q4 := lit_no _ _ [67, 65, 83, 69] hl (by decide)
  have q5 := lit_no _ _ [67, 79, 78, 83, 84] hl (by decide)
  have q6 := lit_no _ _ [68, 69, 70, 73, 78, 73, 84, 73, 79, 78] hl (by decide)
  have q7 := lit_no _ _ [68, 73, 86] hl (by decide)
  have q8 := lit_no _ _ [68, 79] hl (by decide)
  have q9 := lit_no _ _ [69, 76, 83, 69] hl (by decide)
  have q10 := lit_no _ _ [69, 76, 83, 73, 70] hl (by decide)
  have q11 := lit_no _ _ [69, 78, 68] hl (by decide)
  have q12 := lit_no _ _ [69, 88, 73, 84] hl (by decide)
  have q13 := lit_no _ _ [69, 88, 80, 79, 82, 84] hl (by decide)
  have q14 := lit_no _ _ [70, 79, 82] hl (by decide)
  have q15 := lit_no _ _ [70, 82, 79, 77] hl (by decide)
  have q16 := lit_no _ _ [73, 70] hl (by decide)
  have q17 := lit_no _ _ [73, 77, 80, 76, 69, 77, 69, 78, 84, 65, 84, 73, 79, 78] hl (by decide)
  have q18 := lit_no _ _ [73, 77, 80, 79, 82, 84] hl (by decide)
  have q19 := lit_no _ _ [73, 78] hl (by decide)
  have q20 := lit_no _ _ [76, 79, 79, 80] hl (by decide)
  have q21 := lit_no _ _ [77, 79, 68] hl (by decide)
  have q22 := lit_no _ _ [77, 79, 68, 85, 76, 69] hl (by decide)
  have q23 := lit_no _ _ [78, 79, 84] hl (by decide)
  have q24 := lit_no _ _ [79, 70] hl (by decide)
  have q25 := lit_no _ _ [79, 82] hl (by decide)
  have q26 := lit_no _ _ [80, 79, 73, 78, 84, 69, 82] hl (by decide)
  have q27 := lit_no _ _ [80, 82, 79, 67, 69, 68, 85, 82, 69] hl (by decide)
  have q28 := lit_no _ _ [81, 85, 65, 76, 73, 70, 73, 69, 68] hl (by decide)
  have q29 := lit_no _ _ [82, 69, 67, 79, 82, 68] hl (by decide)
  have q30 := lit_no _ _ [82, 69, 80, 69, 65, 84] hl (by decide)
  have q31 := lit_no _ _ [82, 69, 84, 85, 82, 78] hl (by decide)
  have q32 := lit_no _ _ [83, 69, 84] hl (by decide)
  have q33 := lit_no _ _ [84, 72, 69, 78] hl (by decide)
  have q34 := lit_no _ _ [84, 79] hl (by decide)
  have q35 := lit_no _ _ [84, 89, 80, 69] hl (by decide)
  have q36 := lit_no _ _ [85, 78, 84, 73, 76] hl (by decide)
  have q37 := lit_no _ _ [86, 65, 82] hl (by decide)
  have q38 : (s.toList == [87, 72, 73, 76, 69]) = true := by rw [hl]; decide
  clear hl h
  go_enter Tryz.func10, Tryz.ntmps10
  go_wp2_with fail
  go_ret
  exact ⟨rfl, rfl⟩
theorem zw_39 (s : ByteArray) (h : s.data.toList = [87, 73, 84, 72]) (w : World) :
    Calls Tryz.prog 10 #[.string s] w fun e w' => e = .returned (.bool true) ∧ w' = w := by
  have hl : s.toList = [87, 73, 84, 72] := (ByteArray.toList_eq s).trans h
  have q0 := lit_no _ _ [65, 78, 68] hl (by decide)
  have q1 := lit_no _ _ [65, 82, 82, 65, 89] hl (by decide)
  have q2 := lit_no _ _ [66, 69, 71, 73, 78] hl (by decide)
  have q3 := lit_no _ _ [66, 89] hl (by decide)
  have q4 := lit_no _ _ [67, 65, 83, 69] hl (by decide)
  have q5 := lit_no _ _ [67, 79, 78, 83, 84] hl (by decide)
  have q6 := lit_no _ _ [68, 69, 70, 73, 78, 73, 84, 73, 79, 78] hl (by decide)
  have q7 := lit_no _ _ [68, 73, 86] hl (by decide)
  have q8 := lit_no _ _ [68, 79] hl (by decide)
  have q9 := lit_no _ _ [69, 76, 83, 69] hl (by decide)
  have q10 := lit_no _ _ [69, 76, 83, 73, 70] hl (by decide)
  have q11 := lit_no _ _ [69, 78, 68] hl (by decide)
  have q12 := lit_no _ _ [69, 88, 73, 84] hl (by decide)
  have q13 := lit_no _ _ [69, 88, 80, 79, 82, 84] hl (by decide)
  have q14 := lit_no _ _ [70, 79, 82] hl (by decide)
  have q15 := lit_no _ _ [70, 82, 79, 77] hl (by decide)
  have q16 := lit_no _ _ [73, 70] hl (by decide)
  have q17 := lit_no _ _ [73, 77, 80, 76, 69, 77, 69, 78, 84, 65, 84, 73, 79, 78] hl (by decide)
  have q18 := lit_no _ _ [73, 77, 80, 79, 82, 84] hl (by decide)
  have q19 := lit_no _ _ [73, 78] hl (by decide)
  have q20 := lit_no _ _ [76, 79, 79, 80] hl (by decide)
  have q21 := lit_no _ _ [77, 79, 68] hl (by decide)
  have q22 := lit_no _ _ [77, 79, 68, 85, 76, 69] hl (by decide)
  have q23 := lit_no _ _ [78, 79, 84] hl (by decide)
  have q24 := lit_no _ _ [79, 70] hl (by decide)
  have q25 := lit_no _ _ [79, 82] hl (by decide)
  have q26 := lit_no _ _ [80, 79, 73, 78, 84, 69, 82] hl (by decide)
  have q27 := lit_no _ _ [80, 82, 79, 67, 69, 68, 85, 82, 69] hl (by decide)
  have q28 := lit_no _ _ [81, 85, 65, 76, 73, 70, 73, 69, 68] hl (by decide)
  have q29 := lit_no _ _ [82, 69, 67, 79, 82, 68] hl (by decide)
  have q30 := lit_no _ _ [82, 69, 80, 69, 65, 84] hl (by decide)
  have q31 := lit_no _ _ [82, 69, 84, 85, 82, 78] hl (by decide)
  have q32 := lit_no _ _ [83, 69, 84] hl (by decide)
  have q33 := lit_no _ _ [84, 72, 69, 78] hl (by decide)
  have q34 := lit_no _ _ [84, 79] hl (by decide)
  have q35 := lit_no _ _ [84, 89, 80, 69] hl (by decide)
  have q36 := lit_no _ _ [85, 78, 84, 73, 76] hl (by decide)
  have q37 := lit_no _ _ [86, 65, 82] hl (by decide)
  have q38 := lit_no _ _ [87, 72, 73, 76, 69] hl (by decide)
  have q39 : (s.toList == [87, 73, 84, 72]) = true := by rw [hl]; decide
  clear hl h
  go_enter Tryz.func10, Tryz.ntmps10
  go_wp2_with fail
  go_ret
  exact ⟨rfl, rfl⟩
theorem zw_no (s : ByteArray) (h : wordB s.data.toList = false) (w : World) :
    Calls Tryz.prog 10 #[.string s] w fun e w' => e = .returned (.bool false) ∧ w' = w := by
  have hl : s.toList = s.data.toList := ByteArray.toList_eq s
  have hno : ∀ x ∈ resv, (s.toList == x) = false := fun x hx => by
    rw [hl]; refine beq_eq_false_iff_ne.2 (fun e => ?_)
    have : wordB s.data.toList = true := List.contains_iff_mem.2 (by rw [e]; exact hx)
    rw [h] at this; cases this
  have q0 := hno [65, 78, 68] (by decide)
  have q1 := hno [65, 82, 82, 65, 89] (by decide)
  have q2 := hno [66, 69, 71, 73, 78] (by decide)
  have q3 := hno [66, 89] (by decide)
  have q4 := hno [67, 65, 83, 69] (by decide)
  have q5 := hno [67, 79, 78, 83, 84] (by decide)
  have q6 := hno [68, 69, 70, 73, 78, 73, 84, 73, 79, 78] (by decide)
  have q7 := hno [68, 73, 86] (by decide)
  have q8 := hno [68, 79] (by decide)
  have q9 := hno [69, 76, 83, 69] (by decide)
  have q10 := hno [69, 76, 83, 73, 70] (by decide)
  have q11 := hno [69, 78, 68] (by decide)
  have q12 := hno [69, 88, 73, 84] (by decide)
  have q13 := hno [69, 88, 80, 79, 82, 84] (by decide)
  have q14 := hno [70, 79, 82] (by decide)
  have q15 := hno [70, 82, 79, 77] (by decide)
  have q16 := hno [73, 70] (by decide)
  have q17 := hno [73, 77, 80, 76, 69, 77, 69, 78, 84, 65, 84, 73, 79, 78] (by decide)
  have q18 := hno [73, 77, 80, 79, 82, 84] (by decide)
  have q19 := hno [73, 78] (by decide)
  have q20 := hno [76, 79, 79, 80] (by decide)
  have q21 := hno [77, 79, 68] (by decide)
  have q22 := hno [77, 79, 68, 85, 76, 69] (by decide)
  have q23 := hno [78, 79, 84] (by decide)
  have q24 := hno [79, 70] (by decide)
  have q25 := hno [79, 82] (by decide)
  have q26 := hno [80, 79, 73, 78, 84, 69, 82] (by decide)
  have q27 := hno [80, 82, 79, 67, 69, 68, 85, 82, 69] (by decide)
  have q28 := hno [81, 85, 65, 76, 73, 70, 73, 69, 68] (by decide)
  have q29 := hno [82, 69, 67, 79, 82, 68] (by decide)
  have q30 := hno [82, 69, 80, 69, 65, 84] (by decide)
  have q31 := hno [82, 69, 84, 85, 82, 78] (by decide)
  have q32 := hno [83, 69, 84] (by decide)
  have q33 := hno [84, 72, 69, 78] (by decide)
  have q34 := hno [84, 79] (by decide)
  have q35 := hno [84, 89, 80, 69] (by decide)
  have q36 := hno [85, 78, 84, 73, 76] (by decide)
  have q37 := hno [86, 65, 82] (by decide)
  have q38 := hno [87, 72, 73, 76, 69] (by decide)
  have q39 := hno [87, 73, 84, 72] (by decide)
  clear hno hl h
  go_enter Tryz.func10, Tryz.ntmps10
  go_wp2_with fail
  go_ret
  exact ⟨rfl, rfl⟩
theorem zWord_any (s : ByteArray) (w : World) :
    Calls Tryz.prog 10 #[.string s] w fun e w' => e = .returned (.bool (wordB s.data.toList)) ∧ w' = w := by
  cases h : wordB s.data.toList
  · exact zw_no s h w
  · have hm : s.data.toList ∈ resv := List.contains_iff_mem.1 h
    unfold resv at hm
    simp only [List.mem_cons, or_false, List.not_mem_nil] at hm
    rcases hm with h | h | h | h | h | h | h | h | h | h | h | h | h | h | h | h | h | h | h | h | h | h | h | h | h | h | h | h | h | h | h | h | h | h | h | h | h | h | h | h
    · exact zw_0 s h w
    · exact zw_1 s h w
    · exact zw_2 s h w
    · exact zw_3 s h w
    · exact zw_4 s h w
    · exact zw_5 s h w
    · exact zw_6 s h w
    · exact zw_7 s h w
    · exact zw_8 s h w
    · exact zw_9 s h w
    · exact zw_10 s h w
    · exact zw_11 s h w
    · exact zw_12 s h w
    · exact zw_13 s h w
    · exact zw_14 s h w
    · exact zw_15 s h w
    · exact zw_16 s h w
    · exact zw_17 s h w
    · exact zw_18 s h w
    · exact zw_19 s h w
    · exact zw_20 s h w
    · exact zw_21 s h w
    · exact zw_22 s h w
    · exact zw_23 s h w
    · exact zw_24 s h w
    · exact zw_25 s h w
    · exact zw_26 s h w
    · exact zw_27 s h w
    · exact zw_28 s h w
    · exact zw_29 s h w
    · exact zw_30 s h w
    · exact zw_31 s h w
    · exact zw_32 s h w
    · exact zw_33 s h w
    · exact zw_34 s h w
    · exact zw_35 s h w
    · exact zw_36 s h w
    · exact zw_37 s h w
    · exact zw_38 s h w
    · exact zw_39 s h w
end Go.Proofs.YtliebhpddjbjeaaGreatDoor
