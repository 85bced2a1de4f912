/- Package konst: what is told of a value. -/
import Derived.Test.YtepfknfadpkigaaKnA
namespace Go.Proofs.Ytepfknfadpkigaa
open Go.RowKit
set_option maxHeartbeats 1000000
set_option maxRecDepth 100000
set_option linter.unusedVariables false
set_option linter.unusedSimpArgs false

theorem tell_none   (w : World) : Calls Try.prog 57 #[.nilIface] w fun e w' => e = .returned (tellP (.none )).val ∧ Bl w w' := by
  have as_whole : ∀ (w : World), (Instr.typeAssert (.nilIface) 20 106 true).run Try.prog w = .ok (.tuple #[.int .i64 0, .bool false]) w := fun w => as_none_whole  w
  have as_letter : ∀ (w : World), (Instr.typeAssert (.nilIface) 20 109 true).run Try.prog w = .ok (.tuple #[.int .u8 0, .bool false]) w := fun w => as_none_letter  w
  have as_truth : ∀ (w : World), (Instr.typeAssert (.nilIface) 20 111 true).run Try.prog w = .ok (.tuple #[.bool false, .bool false]) w := fun w => as_none_truth  w
  have as_bits : ∀ (w : World), (Instr.typeAssert (.nilIface) 20 114 true).run Try.prog w = .ok (.tuple #[.int .u16 0, .bool false]) w := fun w => as_none_bits  w
  have as_str : ∀ (w : World), (Instr.typeAssert (.nilIface) 20 69 true).run Try.prog w = .ok (.tuple #[.string ByteArray.empty, .bool false]) w := fun w => as_none_str  w
  have as_item : ∀ (w : World), (Instr.typeAssert (.nilIface) 20 118 true).run Try.prog w = .ok (.tuple #[.agg #[.int .i64 0, .int .i64 0], .bool false]) w := fun w => as_none_item  w
  have as_null : ∀ (w : World), (Instr.typeAssert (.nilIface) 20 121 true).run Try.prog w = .ok (.tuple #[.agg #[], .bool false]) w := fun w => as_none_null  w
  go_enter Try.func57, Try.ntmps57
  go_wp2_with fail
  refine bodyPost_ret (v := .agg #[.int .i64 0, .int .i64 0, .string ⟨#[]⟩, .int .i64 0]) (by simp [results, Try.results57, go_sem]) rfl ⟨rfl, ?_⟩
  repeat (first | exact Below.refl _ _ | refine Below.alloc ?_ (by simp <;> omega) _ | refine Below.setCell ?_ (by simp <;> omega) _)
theorem tell_num (n : Int)  (w : World) : Calls Try.prog 57 #[.iface 2 (.int .i64 n)] w fun e w' => e = .returned (tellP (.num n)).val ∧ Bl w w' := by
  have as_whole : ∀ (w : World), (Instr.typeAssert (.iface 2 (.int .i64 n)) 20 106 true).run Try.prog w = .ok (.tuple #[.int .i64 0, .bool false]) w := fun w => as_num_whole n w
  have as_letter : ∀ (w : World), (Instr.typeAssert (.iface 2 (.int .i64 n)) 20 109 true).run Try.prog w = .ok (.tuple #[.int .u8 0, .bool false]) w := fun w => as_num_letter n w
  have as_truth : ∀ (w : World), (Instr.typeAssert (.iface 2 (.int .i64 n)) 20 111 true).run Try.prog w = .ok (.tuple #[.bool false, .bool false]) w := fun w => as_num_truth n w
  have as_bits : ∀ (w : World), (Instr.typeAssert (.iface 2 (.int .i64 n)) 20 114 true).run Try.prog w = .ok (.tuple #[.int .u16 0, .bool false]) w := fun w => as_num_bits n w
  have as_str : ∀ (w : World), (Instr.typeAssert (.iface 2 (.int .i64 n)) 20 69 true).run Try.prog w = .ok (.tuple #[.string ByteArray.empty, .bool false]) w := fun w => as_num_str n w
  have as_item : ∀ (w : World), (Instr.typeAssert (.iface 2 (.int .i64 n)) 20 118 true).run Try.prog w = .ok (.tuple #[.agg #[.int .i64 0, .int .i64 0], .bool false]) w := fun w => as_num_item n w
  have as_null : ∀ (w : World), (Instr.typeAssert (.iface 2 (.int .i64 n)) 20 121 true).run Try.prog w = .ok (.tuple #[.agg #[], .bool false]) w := fun w => as_num_null n w
  go_enter Try.func57, Try.ntmps57
  go_wp2_with fail
  refine bodyPost_ret (v := .agg #[.int .i64 0, .int .i64 0, .string ⟨#[]⟩, .int .i64 0]) (by simp [results, Try.results57, go_sem]) rfl ⟨rfl, ?_⟩
  repeat (first | exact Below.refl _ _ | refine Below.alloc ?_ (by simp <;> omega) _ | refine Below.setCell ?_ (by simp <;> omega) _)
theorem tell_null   (w : World) : Calls Try.prog 57 #[.iface 121 (.agg #[])] w fun e w' => e = .returned (tellP (.null )).val ∧ Bl w w' := by
  have as_whole : ∀ (w : World), (Instr.typeAssert (.iface 121 (.agg #[])) 20 106 true).run Try.prog w = .ok (.tuple #[.int .i64 0, .bool false]) w := fun w => as_null_whole  w
  have as_letter : ∀ (w : World), (Instr.typeAssert (.iface 121 (.agg #[])) 20 109 true).run Try.prog w = .ok (.tuple #[.int .u8 0, .bool false]) w := fun w => as_null_letter  w
  have as_truth : ∀ (w : World), (Instr.typeAssert (.iface 121 (.agg #[])) 20 111 true).run Try.prog w = .ok (.tuple #[.bool false, .bool false]) w := fun w => as_null_truth  w
  have as_bits : ∀ (w : World), (Instr.typeAssert (.iface 121 (.agg #[])) 20 114 true).run Try.prog w = .ok (.tuple #[.int .u16 0, .bool false]) w := fun w => as_null_bits  w
  have as_str : ∀ (w : World), (Instr.typeAssert (.iface 121 (.agg #[])) 20 69 true).run Try.prog w = .ok (.tuple #[.string ByteArray.empty, .bool false]) w := fun w => as_null_str  w
  have as_item : ∀ (w : World), (Instr.typeAssert (.iface 121 (.agg #[])) 20 118 true).run Try.prog w = .ok (.tuple #[.agg #[.int .i64 0, .int .i64 0], .bool false]) w := fun w => as_null_item  w
  have as_null : ∀ (w : World), (Instr.typeAssert (.iface 121 (.agg #[])) 20 121 true).run Try.prog w = .ok (.tuple #[.agg #[], .bool true]) w := fun w => as_null_null  w
  go_enter Try.func57, Try.ntmps57
  go_wp2_with fail
  refine bodyPost_ret (v := .agg #[.int .i64 7, .int .i64 0, .string ⟨#[]⟩, .int .i64 0]) (by simp [results, Try.results57, go_sem]) rfl ⟨rfl, ?_⟩
  repeat (first | exact Below.refl _ _ | refine Below.alloc ?_ (by simp <;> omega) _ | refine Below.setCell ?_ (by simp <;> omega) _)
theorem tell_letter (n : Int) (h : 0 ≤ n ∧ n ≤ 255) (w : World) : Calls Try.prog 57 #[.iface 109 (.int .u8 n)] w fun e w' => e = .returned (tellP (.letter n)).val ∧ Bl w w' := by
  have as_whole : ∀ (w : World), (Instr.typeAssert (.iface 109 (.int .u8 n)) 20 106 true).run Try.prog w = .ok (.tuple #[.int .i64 0, .bool false]) w := fun w => as_letter_whole n w
  have as_letter : ∀ (w : World), (Instr.typeAssert (.iface 109 (.int .u8 n)) 20 109 true).run Try.prog w = .ok (.tuple #[.int .u8 n, .bool true]) w := fun w => as_letter_letter n w
  have as_truth : ∀ (w : World), (Instr.typeAssert (.iface 109 (.int .u8 n)) 20 111 true).run Try.prog w = .ok (.tuple #[.bool false, .bool false]) w := fun w => as_letter_truth n w
  have as_bits : ∀ (w : World), (Instr.typeAssert (.iface 109 (.int .u8 n)) 20 114 true).run Try.prog w = .ok (.tuple #[.int .u16 0, .bool false]) w := fun w => as_letter_bits n w
  have as_str : ∀ (w : World), (Instr.typeAssert (.iface 109 (.int .u8 n)) 20 69 true).run Try.prog w = .ok (.tuple #[.string ByteArray.empty, .bool false]) w := fun w => as_letter_str n w
  have as_item : ∀ (w : World), (Instr.typeAssert (.iface 109 (.int .u8 n)) 20 118 true).run Try.prog w = .ok (.tuple #[.agg #[.int .i64 0, .int .i64 0], .bool false]) w := fun w => as_letter_item n w
  have as_null : ∀ (w : World), (Instr.typeAssert (.iface 109 (.int .u8 n)) 20 121 true).run Try.prog w = .ok (.tuple #[.agg #[], .bool false]) w := fun w => as_letter_null n w
  have hw : wrap64 n = n := IntWalk.wrap64_in n (by omega)
  go_enter Try.func57, Try.ntmps57
  go_wp2_with fail
  refine bodyPost_ret (v := .agg #[.int .i64 2, .int .i64 0, .string ⟨#[]⟩, .int .i64 n]) (by simp [results, Try.results57, go_sem]) rfl ⟨rfl, ?_⟩
  repeat (first | exact Below.refl _ _ | refine Below.alloc ?_ (by simp <;> omega) _ | refine Below.setCell ?_ (by simp <;> omega) _)
theorem tell_bits (n : Int) (h : 0 ≤ n ∧ n ≤ 65535) (w : World) : Calls Try.prog 57 #[.iface 114 (.int .u16 n)] w fun e w' => e = .returned (tellP (.bits n)).val ∧ Bl w w' := by
  have as_whole : ∀ (w : World), (Instr.typeAssert (.iface 114 (.int .u16 n)) 20 106 true).run Try.prog w = .ok (.tuple #[.int .i64 0, .bool false]) w := fun w => as_bits_whole n w
  have as_letter : ∀ (w : World), (Instr.typeAssert (.iface 114 (.int .u16 n)) 20 109 true).run Try.prog w = .ok (.tuple #[.int .u8 0, .bool false]) w := fun w => as_bits_letter n w
  have as_truth : ∀ (w : World), (Instr.typeAssert (.iface 114 (.int .u16 n)) 20 111 true).run Try.prog w = .ok (.tuple #[.bool false, .bool false]) w := fun w => as_bits_truth n w
  have as_bits : ∀ (w : World), (Instr.typeAssert (.iface 114 (.int .u16 n)) 20 114 true).run Try.prog w = .ok (.tuple #[.int .u16 n, .bool true]) w := fun w => as_bits_bits n w
  have as_str : ∀ (w : World), (Instr.typeAssert (.iface 114 (.int .u16 n)) 20 69 true).run Try.prog w = .ok (.tuple #[.string ByteArray.empty, .bool false]) w := fun w => as_bits_str n w
  have as_item : ∀ (w : World), (Instr.typeAssert (.iface 114 (.int .u16 n)) 20 118 true).run Try.prog w = .ok (.tuple #[.agg #[.int .i64 0, .int .i64 0], .bool false]) w := fun w => as_bits_item n w
  have as_null : ∀ (w : World), (Instr.typeAssert (.iface 114 (.int .u16 n)) 20 121 true).run Try.prog w = .ok (.tuple #[.agg #[], .bool false]) w := fun w => as_bits_null n w
  have hw : wrap64 n = n := IntWalk.wrap64_in n (by omega)
  go_enter Try.func57, Try.ntmps57
  go_wp2_with fail
  refine bodyPost_ret (v := .agg #[.int .i64 4, .int .i64 0, .string ⟨#[]⟩, .int .i64 n]) (by simp [results, Try.results57, go_sem]) rfl ⟨rfl, ?_⟩
  repeat (first | exact Below.refl _ _ | refine Below.alloc ?_ (by simp <;> omega) _ | refine Below.setCell ?_ (by simp <;> omega) _)
theorem tell_item (t n : Int)  (w : World) : Calls Try.prog 57 #[.iface 118 (.agg #[.int .i64 t, .int .i64 n])] w fun e w' => e = .returned (tellP (.item t n)).val ∧ Bl w w' := by
  have as_whole : ∀ (w : World), (Instr.typeAssert (.iface 118 (.agg #[.int .i64 t, .int .i64 n])) 20 106 true).run Try.prog w = .ok (.tuple #[.int .i64 0, .bool false]) w := fun w => as_item_whole t n w
  have as_letter : ∀ (w : World), (Instr.typeAssert (.iface 118 (.agg #[.int .i64 t, .int .i64 n])) 20 109 true).run Try.prog w = .ok (.tuple #[.int .u8 0, .bool false]) w := fun w => as_item_letter t n w
  have as_truth : ∀ (w : World), (Instr.typeAssert (.iface 118 (.agg #[.int .i64 t, .int .i64 n])) 20 111 true).run Try.prog w = .ok (.tuple #[.bool false, .bool false]) w := fun w => as_item_truth t n w
  have as_bits : ∀ (w : World), (Instr.typeAssert (.iface 118 (.agg #[.int .i64 t, .int .i64 n])) 20 114 true).run Try.prog w = .ok (.tuple #[.int .u16 0, .bool false]) w := fun w => as_item_bits t n w
  have as_str : ∀ (w : World), (Instr.typeAssert (.iface 118 (.agg #[.int .i64 t, .int .i64 n])) 20 69 true).run Try.prog w = .ok (.tuple #[.string ByteArray.empty, .bool false]) w := fun w => as_item_str t n w
  have as_item : ∀ (w : World), (Instr.typeAssert (.iface 118 (.agg #[.int .i64 t, .int .i64 n])) 20 118 true).run Try.prog w = .ok (.tuple #[.agg #[.int .i64 t, .int .i64 n], .bool true]) w := fun w => as_item_item t n w
  have as_null : ∀ (w : World), (Instr.typeAssert (.iface 118 (.agg #[.int .i64 t, .int .i64 n])) 20 121 true).run Try.prog w = .ok (.tuple #[.agg #[], .bool false]) w := fun w => as_item_null t n w
  go_enter Try.func57, Try.ntmps57
  go_wp2_with fail
  refine bodyPost_ret (v := .agg #[.int .i64 6, .int .i64 t, .string ⟨#[]⟩, .int .i64 n]) (by simp [results, Try.results57, go_sem]) rfl ⟨rfl, ?_⟩
  repeat (first | exact Below.refl _ _ | refine Below.alloc ?_ (by simp <;> omega) _ | refine Below.setCell ?_ (by simp <;> omega) _)
theorem tell_whole (n : Int) (h : inW n = true) (w : World) : Calls Try.prog 57 #[.iface 106 (.int .i64 n)] w fun e w' => e = .returned (tellP (.whole n)).val ∧ Bl w w' := by
  have as_whole : ∀ (w : World), (Instr.typeAssert (.iface 106 (.int .i64 n)) 20 106 true).run Try.prog w = .ok (.tuple #[.int .i64 n, .bool true]) w := fun w => as_whole_whole n w
  have as_letter : ∀ (w : World), (Instr.typeAssert (.iface 106 (.int .i64 n)) 20 109 true).run Try.prog w = .ok (.tuple #[.int .u8 0, .bool false]) w := fun w => as_whole_letter n w
  have as_truth : ∀ (w : World), (Instr.typeAssert (.iface 106 (.int .i64 n)) 20 111 true).run Try.prog w = .ok (.tuple #[.bool false, .bool false]) w := fun w => as_whole_truth n w
  have as_bits : ∀ (w : World), (Instr.typeAssert (.iface 106 (.int .i64 n)) 20 114 true).run Try.prog w = .ok (.tuple #[.int .u16 0, .bool false]) w := fun w => as_whole_bits n w
  have as_str : ∀ (w : World), (Instr.typeAssert (.iface 106 (.int .i64 n)) 20 69 true).run Try.prog w = .ok (.tuple #[.string ByteArray.empty, .bool false]) w := fun w => as_whole_str n w
  have as_item : ∀ (w : World), (Instr.typeAssert (.iface 106 (.int .i64 n)) 20 118 true).run Try.prog w = .ok (.tuple #[.agg #[.int .i64 0, .int .i64 0], .bool false]) w := fun w => as_whole_item n w
  have as_null : ∀ (w : World), (Instr.typeAssert (.iface 106 (.int .i64 n)) 20 121 true).run Try.prog w = .ok (.tuple #[.agg #[], .bool false]) w := fun w => as_whole_null n w
  have HC := within_any n
  have HH := Lib.hid h
  rw [h] at HC
  clear h
  go_enter Try.func57, Try.ntmps57
  go_wp2_with fail
  refine (HC _).mono ?_
  rintro e w2 ⟨rfl, rfl⟩
  go_wp2_with fail
  refine bodyPost_ret (v := .agg #[.int .i64 1, .int .i64 0, .string ⟨#[]⟩, .int .i64 n]) (by simp [results, Try.results57, go_sem]) rfl ⟨by rw [show tellP (.whole n) = ⟨1, 0, nilS, n⟩ from if_pos HH.out]; rfl, ?_⟩
  repeat (first | exact Below.refl _ _ | refine Below.alloc ?_ (by simp <;> omega) _ | refine Below.setCell ?_ (by simp <;> omega) _)
theorem tell_wide (n : Int) (h : inW n = false) (w : World) : Calls Try.prog 57 #[.iface 106 (.int .i64 n)] w fun e w' => e = .returned (tellP (.whole n)).val ∧ Bl w w' := by
  have as_whole : ∀ (w : World), (Instr.typeAssert (.iface 106 (.int .i64 n)) 20 106 true).run Try.prog w = .ok (.tuple #[.int .i64 n, .bool true]) w := fun w => as_whole_whole n w
  have as_letter : ∀ (w : World), (Instr.typeAssert (.iface 106 (.int .i64 n)) 20 109 true).run Try.prog w = .ok (.tuple #[.int .u8 0, .bool false]) w := fun w => as_whole_letter n w
  have as_truth : ∀ (w : World), (Instr.typeAssert (.iface 106 (.int .i64 n)) 20 111 true).run Try.prog w = .ok (.tuple #[.bool false, .bool false]) w := fun w => as_whole_truth n w
  have as_bits : ∀ (w : World), (Instr.typeAssert (.iface 106 (.int .i64 n)) 20 114 true).run Try.prog w = .ok (.tuple #[.int .u16 0, .bool false]) w := fun w => as_whole_bits n w
  have as_str : ∀ (w : World), (Instr.typeAssert (.iface 106 (.int .i64 n)) 20 69 true).run Try.prog w = .ok (.tuple #[.string ByteArray.empty, .bool false]) w := fun w => as_whole_str n w
  have as_item : ∀ (w : World), (Instr.typeAssert (.iface 106 (.int .i64 n)) 20 118 true).run Try.prog w = .ok (.tuple #[.agg #[.int .i64 0, .int .i64 0], .bool false]) w := fun w => as_whole_item n w
  have as_null : ∀ (w : World), (Instr.typeAssert (.iface 106 (.int .i64 n)) 20 121 true).run Try.prog w = .ok (.tuple #[.agg #[], .bool false]) w := fun w => as_whole_null n w
  have HC := within_any n
  have HH := Lib.hid h
  rw [h] at HC
  clear h
  go_enter Try.func57, Try.ntmps57
  go_wp2_with fail
  refine (HC _).mono ?_
  rintro e w2 ⟨rfl, rfl⟩
  go_wp2_with fail
  refine bodyPost_ret (v := .agg #[.int .i64 0, .int .i64 0, .string ⟨#[]⟩, .int .i64 0]) (by simp [results, Try.results57, go_sem]) rfl ⟨by rw [show tellP (.whole n) = ⟨0, 0, nilS, 0⟩ from if_neg (by rw [HH.out]; simp)]; rfl, ?_⟩
  repeat (first | exact Below.refl _ _ | refine Below.alloc ?_ (by simp <;> omega) _ | refine Below.setCell ?_ (by simp <;> omega) _)
theorem tell_truth (b : Bool) (w : World) : Calls Try.prog 57 #[.iface 111 (.bool b)] w fun e w' => e = .returned (tellP (.truth b)).val ∧ Bl w w' := by
  have as_whole : ∀ (w : World), (Instr.typeAssert (.iface 111 (.bool b)) 20 106 true).run Try.prog w = .ok (.tuple #[.int .i64 0, .bool false]) w := fun w => as_truth_whole b w
  have as_letter : ∀ (w : World), (Instr.typeAssert (.iface 111 (.bool b)) 20 109 true).run Try.prog w = .ok (.tuple #[.int .u8 0, .bool false]) w := fun w => as_truth_letter b w
  have as_truth : ∀ (w : World), (Instr.typeAssert (.iface 111 (.bool b)) 20 111 true).run Try.prog w = .ok (.tuple #[.bool b, .bool true]) w := fun w => as_truth_truth b w
  have as_bits : ∀ (w : World), (Instr.typeAssert (.iface 111 (.bool b)) 20 114 true).run Try.prog w = .ok (.tuple #[.int .u16 0, .bool false]) w := fun w => as_truth_bits b w
  have as_str : ∀ (w : World), (Instr.typeAssert (.iface 111 (.bool b)) 20 69 true).run Try.prog w = .ok (.tuple #[.string ByteArray.empty, .bool false]) w := fun w => as_truth_str b w
  have as_item : ∀ (w : World), (Instr.typeAssert (.iface 111 (.bool b)) 20 118 true).run Try.prog w = .ok (.tuple #[.agg #[.int .i64 0, .int .i64 0], .bool false]) w := fun w => as_truth_item b w
  have as_null : ∀ (w : World), (Instr.typeAssert (.iface 111 (.bool b)) 20 121 true).run Try.prog w = .ok (.tuple #[.agg #[], .bool false]) w := fun w => as_truth_null b w
  go_enter Try.func57, Try.ntmps57
  go_wp2_with fail
  refine (ordinal_any b _).mono ?_
  rintro e w2 ⟨rfl, rfl⟩
  go_wp2_with fail
  refine bodyPost_ret (v := .agg #[.int .i64 3, .int .i64 0, .string ⟨#[]⟩, .int .i64 (b2i b)]) (by simp [results, Try.results57, go_sem]) rfl ⟨rfl, ?_⟩
  repeat (first | exact Below.refl _ _ | refine Below.alloc ?_ (by simp <;> omega) _ | refine Below.setCell ?_ (by simp <;> omega) _)
theorem tell_str (s : ByteArray) (h : s.size ≤ 9223372036854775807) (w : World) : Calls Try.prog 57 #[.iface 69 (.string s)] w fun e w' => e = .returned (tellP (.str s)).val ∧ Bl w w' := by
  have as_whole : ∀ (w : World), (Instr.typeAssert (.iface 69 (.string s)) 20 106 true).run Try.prog w = .ok (.tuple #[.int .i64 0, .bool false]) w := fun w => as_str_whole s w
  have as_letter : ∀ (w : World), (Instr.typeAssert (.iface 69 (.string s)) 20 109 true).run Try.prog w = .ok (.tuple #[.int .u8 0, .bool false]) w := fun w => as_str_letter s w
  have as_truth : ∀ (w : World), (Instr.typeAssert (.iface 69 (.string s)) 20 111 true).run Try.prog w = .ok (.tuple #[.bool false, .bool false]) w := fun w => as_str_truth s w
  have as_bits : ∀ (w : World), (Instr.typeAssert (.iface 69 (.string s)) 20 114 true).run Try.prog w = .ok (.tuple #[.int .u16 0, .bool false]) w := fun w => as_str_bits s w
  have as_str : ∀ (w : World), (Instr.typeAssert (.iface 69 (.string s)) 20 69 true).run Try.prog w = .ok (.tuple #[.string s, .bool true]) w := fun w => as_str_str s w
  have as_item : ∀ (w : World), (Instr.typeAssert (.iface 69 (.string s)) 20 118 true).run Try.prog w = .ok (.tuple #[.agg #[.int .i64 0, .int .i64 0], .bool false]) w := fun w => as_str_item s w
  have as_null : ∀ (w : World), (Instr.typeAssert (.iface 69 (.string s)) 20 121 true).run Try.prog w = .ok (.tuple #[.agg #[], .bool false]) w := fun w => as_str_null s w
  go_enter Try.func57, Try.ntmps57
  go_wp2_with fail
  refine (letter_any s h _).mono ?_
  rintro e w2 ⟨rfl, rfl⟩
  go_wp2_with fail
  refine bodyPost_ret (v := .agg #[.int .i64 5, .int .i64 0, .string s, .int .i64 (let1 s)]) (by simp [results, Try.results57, go_sem]) rfl ⟨rfl, ?_⟩
  repeat (first | exact Below.refl _ _ | refine Below.alloc ?_ (by simp <;> omega) _ | refine Below.setCell ?_ (by simp <;> omega) _)
theorem tell_any (v : PV) (hv : v.wf) (w : World) : Calls Try.prog 57 #[v.val] w fun e w' => e = .returned (tellP v).val ∧ Bl w w' := by
  cases v with
  | none => exact tell_none w
  | whole n => cases h : inW n; exact tell_wide n h w; exact tell_whole n h w
  | letter n => exact tell_letter n hv w
  | truth b => exact tell_truth b w
  | bits n => exact tell_bits n hv w
  | str s => exact tell_str s hv w
  | item t n => exact tell_item t n w
  | null => exact tell_null w
  | num n => exact tell_num n w
end Go.Proofs.Ytepfknfadpkigaa
