/- Package konst: what the statements look at. -/
import Derived.Test.YtpnohljhpoildaaKnH
namespace Go.Proofs.Ytpnohljhpoildaa
open Go.RowKit
set_option maxHeartbeats 1000000
set_option maxRecDepth 100000
set_option linter.unusedVariables false
set_option linter.unusedSimpArgs false

/-- A value of the document's. -/
structure LV where
  s : Int
  n : Int
  x : ByteArray
  t : Int
def LV.val (a : LV) : Value := .agg #[.int .i64 a.s, .int .i64 a.n, .string a.x, .int .i64 a.t]
def LV.eq (a b : LV) : Bool := a.s == b.s && (a.n == b.n && (a.x.toList == b.x.toList && a.t == b.t))
def TV.eq (a b : TV) : Bool := a.s == b.s && (a.t == b.t && (a.x.toList == b.x.toList && a.n == b.n))
def lookP : PV → LV
  | .none => ⟨0, 0, nilS, 0⟩
  | .whole n => if inW n = true then ⟨1, n, nilS, 0⟩ else ⟨0, 0, nilS, 0⟩
  | .letter n => ⟨2, n, nilS, 0⟩
  | .truth b => ⟨3, b2i b, nilS, 0⟩
  | .bits n => ⟨4, n, nilS, 0⟩
  | .str s => ⟨5, 0, s, 0⟩
  | .item t n => ⟨6, n, nilS, t⟩
  | .null => ⟨7, 0, nilS, 0⟩
  | .num _ => ⟨0, 0, nilS, 0⟩
theorem undV : Try.prog.underlying 29 = some (.struct (Try.prog.fieldsOf 29)) := by kernel_rfl
theorem heldV : Try.prog.stoodInHeld 29 = false := by kernel_rfl
theorem grdV : Try.prog.eqGuardType Try.prog.depth 29 = false := by kernel_rfl
theorem fieldsV : ∃ f0 f1 f2 f3 : Field, (Try.prog.fieldsOf 29) = #[f0, f1, f2, f3] ∧ f0.name = "Sort" ∧ f0.type = 3 ∧ f0.offset = 0 ∧ f1.name = "N" ∧ f1.type = 2 ∧ f1.offset = 1 ∧ f2.name = "S" ∧ f2.type = 9 ∧ f2.offset = 2 ∧ f3.name = "T" ∧ f3.type = 3 ∧ f3.offset = 3 := by
  refine ⟨_, _, _, _, (by kernel_rfl : Try.prog.fieldsOf 29 = #[(Try.prog.fieldsOf 29).getD 0 default, (Try.prog.fieldsOf 29).getD 1 default, (Try.prog.fieldsOf 29).getD 2 default, (Try.prog.fieldsOf 29).getD 3 default]), ?_, ?_, ?_, ?_, ?_, ?_, ?_, ?_, ?_, ?_, ?_, ?_⟩ <;> kernel_rfl
theorem eqV (a b : LV) (w : World) : (binOp .eql 29 a.val b.val).run Try.prog w = .ok (.bool (a.eq b)) w := by
  obtain ⟨f0, f1, f2, f3, h0, n0, t0, o0, n1, t1, o1, n2, t2, o2, n3, t3, o3⟩ := fieldsV
  obtain ⟨a0, a1, a2, a3⟩ := a
  obtain ⟨b0, b1, b2, b3⟩ := b
  unfold LV.val LV.eq
  simp only
  rw [run_eql_struct, show (10000 : Nat) = 9999 + 1 from rfl, run_equalIn_agg w 9999 _ _ _ undV heldV, h0]
  have pa0 : (part 3 #[.int .i64 a0, .int .i64 a1, .string a2, .int .i64 a3] 0).run Try.prog w = .ok (.int .i64 a0) w := by simp [part, Try.isAgg3]
  have pb0 : (part 3 #[.int .i64 b0, .int .i64 b1, .string b2, .int .i64 b3] 0).run Try.prog w = .ok (.int .i64 b0) w := by simp [part, Try.isAgg3]
  have e0 := run_equalIn_int (P := Try.prog) w 9998 3 .i64 .i64 a0 b0 Try.underlying3
  have pa1 : (part 2 #[.int .i64 a0, .int .i64 a1, .string a2, .int .i64 a3] 1).run Try.prog w = .ok (.int .i64 a1) w := by simp [part, Try.isAgg2]
  have pb1 : (part 2 #[.int .i64 b0, .int .i64 b1, .string b2, .int .i64 b3] 1).run Try.prog w = .ok (.int .i64 b1) w := by simp [part, Try.isAgg2]
  have e1 := run_equalIn_int (P := Try.prog) w 9998 2 .i64 .i64 a1 b1 Try.underlying2
  have pa2 : (part 9 #[.int .i64 a0, .int .i64 a1, .string a2, .int .i64 a3] 2).run Try.prog w = .ok (.string a2) w := by simp [part, Try.isAgg9]
  have pb2 : (part 9 #[.int .i64 b0, .int .i64 b1, .string b2, .int .i64 b3] 2).run Try.prog w = .ok (.string b2) w := by simp [part, Try.isAgg9]
  have e2 := run_equalIn_string (P := Try.prog) w 9998 9 a2 b2 Try.underlying9
  have pa3 : (part 3 #[.int .i64 a0, .int .i64 a1, .string a2, .int .i64 a3] 3).run Try.prog w = .ok (.int .i64 a3) w := by simp [part, Try.isAgg3]
  have pb3 : (part 3 #[.int .i64 b0, .int .i64 b1, .string b2, .int .i64 b3] 3).run Try.prog w = .ok (.int .i64 b3) w := by simp [part, Try.isAgg3]
  have e3 := run_equalIn_int (P := Try.prog) w 9998 3 .i64 .i64 a3 b3 Try.underlying3
  simp only [Op.eqFields, n0, t0, o0, n1, t1, o1, n2, t2, o2, n3, t3, o3]
  simp only [Nat.reduceAdd] at e0 e1 e2 e3
  generalize a2.toList = l2 at *
  generalize b2.toList = m2 at *
  simp [pa0, pb0, e0, pa1, pb1, e1, pa2, pb2, e2, pa3, pb3, e3, Result.andThen]
  cases q0 : (a0 == b0) <;> cases q1 : (a1 == b1) <;> cases q2 : (l2 == m2) <;> cases q3 : (a3 == b3) <;> simp_all
theorem undT : Try.prog.underlying 66 = some (.struct (Try.prog.fieldsOf 66)) := by kernel_rfl
theorem heldT : Try.prog.stoodInHeld 66 = false := by kernel_rfl
theorem grdT : Try.prog.eqGuardType Try.prog.depth 66 = false := by kernel_rfl
theorem fieldsT : ∃ f0 f1 f2 f3 : Field, (Try.prog.fieldsOf 66) = #[f0, f1, f2, f3] ∧ f0.name = "sort" ∧ f0.type = 3 ∧ f0.offset = 0 ∧ f1.name = "typ" ∧ f1.type = 3 ∧ f1.offset = 1 ∧ f2.name = "text" ∧ f2.type = 9 ∧ f2.offset = 2 ∧ f3.name = "n" ∧ f3.type = 2 ∧ f3.offset = 3 := by
  refine ⟨_, _, _, _, (by kernel_rfl : Try.prog.fieldsOf 66 = #[(Try.prog.fieldsOf 66).getD 0 default, (Try.prog.fieldsOf 66).getD 1 default, (Try.prog.fieldsOf 66).getD 2 default, (Try.prog.fieldsOf 66).getD 3 default]), ?_, ?_, ?_, ?_, ?_, ?_, ?_, ?_, ?_, ?_, ?_, ?_⟩ <;> kernel_rfl
theorem eqT (a b : TV) (w : World) : (binOp .eql 66 a.val b.val).run Try.prog w = .ok (.bool (a.eq b)) w := by
  obtain ⟨f0, f1, f2, f3, h0, n0, t0, o0, n1, t1, o1, n2, t2, o2, n3, t3, o3⟩ := fieldsT
  obtain ⟨a0, a1, a2, a3⟩ := a
  obtain ⟨b0, b1, b2, b3⟩ := b
  unfold TV.val TV.eq
  simp only
  rw [run_eql_struct, show (10000 : Nat) = 9999 + 1 from rfl, run_equalIn_agg w 9999 _ _ _ undT heldT, h0]
  have pa0 : (part 3 #[.int .i64 a0, .int .i64 a1, .string a2, .int .i64 a3] 0).run Try.prog w = .ok (.int .i64 a0) w := by simp [part, Try.isAgg3]
  have pb0 : (part 3 #[.int .i64 b0, .int .i64 b1, .string b2, .int .i64 b3] 0).run Try.prog w = .ok (.int .i64 b0) w := by simp [part, Try.isAgg3]
  have e0 := run_equalIn_int (P := Try.prog) w 9998 3 .i64 .i64 a0 b0 Try.underlying3
  have pa1 : (part 3 #[.int .i64 a0, .int .i64 a1, .string a2, .int .i64 a3] 1).run Try.prog w = .ok (.int .i64 a1) w := by simp [part, Try.isAgg3]
  have pb1 : (part 3 #[.int .i64 b0, .int .i64 b1, .string b2, .int .i64 b3] 1).run Try.prog w = .ok (.int .i64 b1) w := by simp [part, Try.isAgg3]
  have e1 := run_equalIn_int (P := Try.prog) w 9998 3 .i64 .i64 a1 b1 Try.underlying3
  have pa2 : (part 9 #[.int .i64 a0, .int .i64 a1, .string a2, .int .i64 a3] 2).run Try.prog w = .ok (.string a2) w := by simp [part, Try.isAgg9]
  have pb2 : (part 9 #[.int .i64 b0, .int .i64 b1, .string b2, .int .i64 b3] 2).run Try.prog w = .ok (.string b2) w := by simp [part, Try.isAgg9]
  have e2 := run_equalIn_string (P := Try.prog) w 9998 9 a2 b2 Try.underlying9
  have pa3 : (part 2 #[.int .i64 a0, .int .i64 a1, .string a2, .int .i64 a3] 3).run Try.prog w = .ok (.int .i64 a3) w := by simp [part, Try.isAgg2]
  have pb3 : (part 2 #[.int .i64 b0, .int .i64 b1, .string b2, .int .i64 b3] 3).run Try.prog w = .ok (.int .i64 b3) w := by simp [part, Try.isAgg2]
  have e3 := run_equalIn_int (P := Try.prog) w 9998 2 .i64 .i64 a3 b3 Try.underlying2
  simp only [Op.eqFields, n0, t0, o0, n1, t1, o1, n2, t2, o2, n3, t3, o3]
  simp only [Nat.reduceAdd] at e0 e1 e2 e3
  generalize a2.toList = l2 at *
  generalize b2.toList = m2 at *
  simp [pa0, pb0, e0, pa1, pb1, e1, pa2, pb2, e2, pa3, pb3, e3, Result.andThen]
  cases q0 : (a0 == b0) <;> cases q1 : (a1 == b1) <;> cases q2 : (l2 == m2) <;> cases q3 : (a3 == b3) <;> simp_all
theorem look_none   (w : World) : Calls Try.prog 9 #[.nilIface] w fun e w' => e = .returned (lookP (.none )).val ∧ Bl w w' := by
  have as_whole : ∀ (w : World), (Instr.typeAssert (.nilIface) 20 42 true).run Try.prog w = .ok (.tuple #[.int .i64 0, .bool false]) w := fun w => as_none_whole  w
  have as_letter : ∀ (w : World), (Instr.typeAssert (.nilIface) 20 50 true).run Try.prog w = .ok (.tuple #[.int .u8 0, .bool false]) w := fun w => as_none_letter  w
  have as_truth : ∀ (w : World), (Instr.typeAssert (.nilIface) 20 48 true).run Try.prog w = .ok (.tuple #[.bool false, .bool false]) w := fun w => as_none_truth  w
  have as_bits : ∀ (w : World), (Instr.typeAssert (.nilIface) 20 47 true).run Try.prog w = .ok (.tuple #[.int .u16 0, .bool false]) w := fun w => as_none_bits  w
  have as_str : ∀ (w : World), (Instr.typeAssert (.nilIface) 20 58 true).run Try.prog w = .ok (.tuple #[.string ByteArray.empty, .bool false]) w := fun w => as_none_str  w
  have as_item : ∀ (w : World), (Instr.typeAssert (.nilIface) 20 61 true).run Try.prog w = .ok (.tuple #[.agg #[.int .i64 0, .int .i64 0], .bool false]) w := fun w => as_none_item  w
  have as_null : ∀ (w : World), (Instr.typeAssert (.nilIface) 20 52 true).run Try.prog w = .ok (.tuple #[.agg #[], .bool false]) w := fun w => as_none_null  w
  go_enter Try.func9, Try.ntmps9
  go_wp2_with fail
  refine bodyPost_ret (v := .agg #[.int .i64 0, .int .i64 0, .string ⟨#[]⟩, .int .i64 0]) (by simp [results, Try.results9, go_sem]) rfl ⟨rfl, ?_⟩
  repeat (first | exact Below.refl _ _ | assumption | refine Below.alloc ?_ (by simp <;> omega) _ | refine Below.setCell ?_ (by simp <;> omega) _)
theorem look_num (n : Int)  (w : World) : Calls Try.prog 9 #[.iface 2 (.int .i64 n)] w fun e w' => e = .returned (lookP (.num n)).val ∧ Bl w w' := by
  have as_whole : ∀ (w : World), (Instr.typeAssert (.iface 2 (.int .i64 n)) 20 42 true).run Try.prog w = .ok (.tuple #[.int .i64 0, .bool false]) w := fun w => as_num_whole n w
  have as_letter : ∀ (w : World), (Instr.typeAssert (.iface 2 (.int .i64 n)) 20 50 true).run Try.prog w = .ok (.tuple #[.int .u8 0, .bool false]) w := fun w => as_num_letter n w
  have as_truth : ∀ (w : World), (Instr.typeAssert (.iface 2 (.int .i64 n)) 20 48 true).run Try.prog w = .ok (.tuple #[.bool false, .bool false]) w := fun w => as_num_truth n w
  have as_bits : ∀ (w : World), (Instr.typeAssert (.iface 2 (.int .i64 n)) 20 47 true).run Try.prog w = .ok (.tuple #[.int .u16 0, .bool false]) w := fun w => as_num_bits n w
  have as_str : ∀ (w : World), (Instr.typeAssert (.iface 2 (.int .i64 n)) 20 58 true).run Try.prog w = .ok (.tuple #[.string ByteArray.empty, .bool false]) w := fun w => as_num_str n w
  have as_item : ∀ (w : World), (Instr.typeAssert (.iface 2 (.int .i64 n)) 20 61 true).run Try.prog w = .ok (.tuple #[.agg #[.int .i64 0, .int .i64 0], .bool false]) w := fun w => as_num_item n w
  have as_null : ∀ (w : World), (Instr.typeAssert (.iface 2 (.int .i64 n)) 20 52 true).run Try.prog w = .ok (.tuple #[.agg #[], .bool false]) w := fun w => as_num_null n w
  go_enter Try.func9, Try.ntmps9
  go_wp2_with fail
  refine bodyPost_ret (v := .agg #[.int .i64 0, .int .i64 0, .string ⟨#[]⟩, .int .i64 0]) (by simp [results, Try.results9, go_sem]) rfl ⟨rfl, ?_⟩
  repeat (first | exact Below.refl _ _ | assumption | refine Below.alloc ?_ (by simp <;> omega) _ | refine Below.setCell ?_ (by simp <;> omega) _)
theorem look_null   (w : World) : Calls Try.prog 9 #[.iface 52 (.agg #[])] w fun e w' => e = .returned (lookP (.null )).val ∧ Bl w w' := by
  have as_whole : ∀ (w : World), (Instr.typeAssert (.iface 52 (.agg #[])) 20 42 true).run Try.prog w = .ok (.tuple #[.int .i64 0, .bool false]) w := fun w => as_null_whole  w
  have as_letter : ∀ (w : World), (Instr.typeAssert (.iface 52 (.agg #[])) 20 50 true).run Try.prog w = .ok (.tuple #[.int .u8 0, .bool false]) w := fun w => as_null_letter  w
  have as_truth : ∀ (w : World), (Instr.typeAssert (.iface 52 (.agg #[])) 20 48 true).run Try.prog w = .ok (.tuple #[.bool false, .bool false]) w := fun w => as_null_truth  w
  have as_bits : ∀ (w : World), (Instr.typeAssert (.iface 52 (.agg #[])) 20 47 true).run Try.prog w = .ok (.tuple #[.int .u16 0, .bool false]) w := fun w => as_null_bits  w
  have as_str : ∀ (w : World), (Instr.typeAssert (.iface 52 (.agg #[])) 20 58 true).run Try.prog w = .ok (.tuple #[.string ByteArray.empty, .bool false]) w := fun w => as_null_str  w
  have as_item : ∀ (w : World), (Instr.typeAssert (.iface 52 (.agg #[])) 20 61 true).run Try.prog w = .ok (.tuple #[.agg #[.int .i64 0, .int .i64 0], .bool false]) w := fun w => as_null_item  w
  have as_null : ∀ (w : World), (Instr.typeAssert (.iface 52 (.agg #[])) 20 52 true).run Try.prog w = .ok (.tuple #[.agg #[], .bool true]) w := fun w => as_null_null  w
  go_enter Try.func9, Try.ntmps9
  go_wp2_with fail
  refine bodyPost_ret (v := .agg #[.int .i64 7, .int .i64 0, .string ⟨#[]⟩, .int .i64 0]) (by simp [results, Try.results9, go_sem]) rfl ⟨rfl, ?_⟩
  repeat (first | exact Below.refl _ _ | assumption | refine Below.alloc ?_ (by simp <;> omega) _ | refine Below.setCell ?_ (by simp <;> omega) _)
theorem look_letter (n : Int) (h : 0 ≤ n ∧ n ≤ 255) (w : World) : Calls Try.prog 9 #[.iface 50 (.int .u8 n)] w fun e w' => e = .returned (lookP (.letter n)).val ∧ Bl w w' := by
  have as_whole : ∀ (w : World), (Instr.typeAssert (.iface 50 (.int .u8 n)) 20 42 true).run Try.prog w = .ok (.tuple #[.int .i64 0, .bool false]) w := fun w => as_letter_whole n w
  have as_letter : ∀ (w : World), (Instr.typeAssert (.iface 50 (.int .u8 n)) 20 50 true).run Try.prog w = .ok (.tuple #[.int .u8 n, .bool true]) w := fun w => as_letter_letter n w
  have as_truth : ∀ (w : World), (Instr.typeAssert (.iface 50 (.int .u8 n)) 20 48 true).run Try.prog w = .ok (.tuple #[.bool false, .bool false]) w := fun w => as_letter_truth n w
  have as_bits : ∀ (w : World), (Instr.typeAssert (.iface 50 (.int .u8 n)) 20 47 true).run Try.prog w = .ok (.tuple #[.int .u16 0, .bool false]) w := fun w => as_letter_bits n w
  have as_str : ∀ (w : World), (Instr.typeAssert (.iface 50 (.int .u8 n)) 20 58 true).run Try.prog w = .ok (.tuple #[.string ByteArray.empty, .bool false]) w := fun w => as_letter_str n w
  have as_item : ∀ (w : World), (Instr.typeAssert (.iface 50 (.int .u8 n)) 20 61 true).run Try.prog w = .ok (.tuple #[.agg #[.int .i64 0, .int .i64 0], .bool false]) w := fun w => as_letter_item n w
  have as_null : ∀ (w : World), (Instr.typeAssert (.iface 50 (.int .u8 n)) 20 52 true).run Try.prog w = .ok (.tuple #[.agg #[], .bool false]) w := fun w => as_letter_null n w
  have hw : wrap64 n = n := IntWalk.wrap64_in n (by omega)
  go_enter Try.func9, Try.ntmps9
  go_wp2_with fail
  refine bodyPost_ret (v := .agg #[.int .i64 2, .int .i64 n, .string ⟨#[]⟩, .int .i64 0]) (by simp [results, Try.results9, go_sem]) rfl ⟨rfl, ?_⟩
  repeat (first | exact Below.refl _ _ | assumption | refine Below.alloc ?_ (by simp <;> omega) _ | refine Below.setCell ?_ (by simp <;> omega) _)
theorem look_bits (n : Int) (h : 0 ≤ n ∧ n ≤ 65535) (w : World) : Calls Try.prog 9 #[.iface 47 (.int .u16 n)] w fun e w' => e = .returned (lookP (.bits n)).val ∧ Bl w w' := by
  have as_whole : ∀ (w : World), (Instr.typeAssert (.iface 47 (.int .u16 n)) 20 42 true).run Try.prog w = .ok (.tuple #[.int .i64 0, .bool false]) w := fun w => as_bits_whole n w
  have as_letter : ∀ (w : World), (Instr.typeAssert (.iface 47 (.int .u16 n)) 20 50 true).run Try.prog w = .ok (.tuple #[.int .u8 0, .bool false]) w := fun w => as_bits_letter n w
  have as_truth : ∀ (w : World), (Instr.typeAssert (.iface 47 (.int .u16 n)) 20 48 true).run Try.prog w = .ok (.tuple #[.bool false, .bool false]) w := fun w => as_bits_truth n w
  have as_bits : ∀ (w : World), (Instr.typeAssert (.iface 47 (.int .u16 n)) 20 47 true).run Try.prog w = .ok (.tuple #[.int .u16 n, .bool true]) w := fun w => as_bits_bits n w
  have as_str : ∀ (w : World), (Instr.typeAssert (.iface 47 (.int .u16 n)) 20 58 true).run Try.prog w = .ok (.tuple #[.string ByteArray.empty, .bool false]) w := fun w => as_bits_str n w
  have as_item : ∀ (w : World), (Instr.typeAssert (.iface 47 (.int .u16 n)) 20 61 true).run Try.prog w = .ok (.tuple #[.agg #[.int .i64 0, .int .i64 0], .bool false]) w := fun w => as_bits_item n w
  have as_null : ∀ (w : World), (Instr.typeAssert (.iface 47 (.int .u16 n)) 20 52 true).run Try.prog w = .ok (.tuple #[.agg #[], .bool false]) w := fun w => as_bits_null n w
  have hw : wrap64 n = n := IntWalk.wrap64_in n (by omega)
  go_enter Try.func9, Try.ntmps9
  go_wp2_with fail
  refine bodyPost_ret (v := .agg #[.int .i64 4, .int .i64 n, .string ⟨#[]⟩, .int .i64 0]) (by simp [results, Try.results9, go_sem]) rfl ⟨rfl, ?_⟩
  repeat (first | exact Below.refl _ _ | assumption | refine Below.alloc ?_ (by simp <;> omega) _ | refine Below.setCell ?_ (by simp <;> omega) _)
theorem look_item (t n : Int)  (w : World) : Calls Try.prog 9 #[.iface 61 (.agg #[.int .i64 t, .int .i64 n])] w fun e w' => e = .returned (lookP (.item t n)).val ∧ Bl w w' := by
  have as_whole : ∀ (w : World), (Instr.typeAssert (.iface 61 (.agg #[.int .i64 t, .int .i64 n])) 20 42 true).run Try.prog w = .ok (.tuple #[.int .i64 0, .bool false]) w := fun w => as_item_whole t n w
  have as_letter : ∀ (w : World), (Instr.typeAssert (.iface 61 (.agg #[.int .i64 t, .int .i64 n])) 20 50 true).run Try.prog w = .ok (.tuple #[.int .u8 0, .bool false]) w := fun w => as_item_letter t n w
  have as_truth : ∀ (w : World), (Instr.typeAssert (.iface 61 (.agg #[.int .i64 t, .int .i64 n])) 20 48 true).run Try.prog w = .ok (.tuple #[.bool false, .bool false]) w := fun w => as_item_truth t n w
  have as_bits : ∀ (w : World), (Instr.typeAssert (.iface 61 (.agg #[.int .i64 t, .int .i64 n])) 20 47 true).run Try.prog w = .ok (.tuple #[.int .u16 0, .bool false]) w := fun w => as_item_bits t n w
  have as_str : ∀ (w : World), (Instr.typeAssert (.iface 61 (.agg #[.int .i64 t, .int .i64 n])) 20 58 true).run Try.prog w = .ok (.tuple #[.string ByteArray.empty, .bool false]) w := fun w => as_item_str t n w
  have as_item : ∀ (w : World), (Instr.typeAssert (.iface 61 (.agg #[.int .i64 t, .int .i64 n])) 20 61 true).run Try.prog w = .ok (.tuple #[.agg #[.int .i64 t, .int .i64 n], .bool true]) w := fun w => as_item_item t n w
  have as_null : ∀ (w : World), (Instr.typeAssert (.iface 61 (.agg #[.int .i64 t, .int .i64 n])) 20 52 true).run Try.prog w = .ok (.tuple #[.agg #[], .bool false]) w := fun w => as_item_null t n w
  go_enter Try.func9, Try.ntmps9
  go_wp2_with fail
  refine bodyPost_ret (v := .agg #[.int .i64 6, .int .i64 n, .string ⟨#[]⟩, .int .i64 t]) (by simp [results, Try.results9, go_sem]) rfl ⟨rfl, ?_⟩
  repeat (first | exact Below.refl _ _ | assumption | refine Below.alloc ?_ (by simp <;> omega) _ | refine Below.setCell ?_ (by simp <;> omega) _)
theorem look_str (s : ByteArray)  (w : World) : Calls Try.prog 9 #[.iface 58 (.string s)] w fun e w' => e = .returned (lookP (.str s)).val ∧ Bl w w' := by
  have as_whole : ∀ (w : World), (Instr.typeAssert (.iface 58 (.string s)) 20 42 true).run Try.prog w = .ok (.tuple #[.int .i64 0, .bool false]) w := fun w => as_str_whole s w
  have as_letter : ∀ (w : World), (Instr.typeAssert (.iface 58 (.string s)) 20 50 true).run Try.prog w = .ok (.tuple #[.int .u8 0, .bool false]) w := fun w => as_str_letter s w
  have as_truth : ∀ (w : World), (Instr.typeAssert (.iface 58 (.string s)) 20 48 true).run Try.prog w = .ok (.tuple #[.bool false, .bool false]) w := fun w => as_str_truth s w
  have as_bits : ∀ (w : World), (Instr.typeAssert (.iface 58 (.string s)) 20 47 true).run Try.prog w = .ok (.tuple #[.int .u16 0, .bool false]) w := fun w => as_str_bits s w
  have as_str : ∀ (w : World), (Instr.typeAssert (.iface 58 (.string s)) 20 58 true).run Try.prog w = .ok (.tuple #[.string s, .bool true]) w := fun w => as_str_str s w
  have as_item : ∀ (w : World), (Instr.typeAssert (.iface 58 (.string s)) 20 61 true).run Try.prog w = .ok (.tuple #[.agg #[.int .i64 0, .int .i64 0], .bool false]) w := fun w => as_str_item s w
  have as_null : ∀ (w : World), (Instr.typeAssert (.iface 58 (.string s)) 20 52 true).run Try.prog w = .ok (.tuple #[.agg #[], .bool false]) w := fun w => as_str_null s w
  go_enter Try.func9, Try.ntmps9
  go_wp2_with fail
  refine bodyPost_ret (v := .agg #[.int .i64 5, .int .i64 0, .string s, .int .i64 0]) (by simp [results, Try.results9, go_sem]) rfl ⟨rfl, ?_⟩
  repeat (first | exact Below.refl _ _ | assumption | refine Below.alloc ?_ (by simp <;> omega) _ | refine Below.setCell ?_ (by simp <;> omega) _)
theorem look_true   (w : World) : Calls Try.prog 9 #[.iface 48 (.bool true)] w fun e w' => e = .returned (lookP (.truth true)).val ∧ Bl w w' := by
  have as_whole : ∀ (w : World), (Instr.typeAssert (.iface 48 (.bool true)) 20 42 true).run Try.prog w = .ok (.tuple #[.int .i64 0, .bool false]) w := fun w => as_truth_whole true w
  have as_letter : ∀ (w : World), (Instr.typeAssert (.iface 48 (.bool true)) 20 50 true).run Try.prog w = .ok (.tuple #[.int .u8 0, .bool false]) w := fun w => as_truth_letter true w
  have as_truth : ∀ (w : World), (Instr.typeAssert (.iface 48 (.bool true)) 20 48 true).run Try.prog w = .ok (.tuple #[.bool true, .bool true]) w := fun w => as_truth_truth true w
  have as_bits : ∀ (w : World), (Instr.typeAssert (.iface 48 (.bool true)) 20 47 true).run Try.prog w = .ok (.tuple #[.int .u16 0, .bool false]) w := fun w => as_truth_bits true w
  have as_str : ∀ (w : World), (Instr.typeAssert (.iface 48 (.bool true)) 20 58 true).run Try.prog w = .ok (.tuple #[.string ByteArray.empty, .bool false]) w := fun w => as_truth_str true w
  have as_item : ∀ (w : World), (Instr.typeAssert (.iface 48 (.bool true)) 20 61 true).run Try.prog w = .ok (.tuple #[.agg #[.int .i64 0, .int .i64 0], .bool false]) w := fun w => as_truth_item true w
  have as_null : ∀ (w : World), (Instr.typeAssert (.iface 48 (.bool true)) 20 52 true).run Try.prog w = .ok (.tuple #[.agg #[], .bool false]) w := fun w => as_truth_null true w
  go_enter Try.func9, Try.ntmps9
  go_wp2_with fail
  refine bodyPost_ret (v := .agg #[.int .i64 3, .int .i64 1, .string ⟨#[]⟩, .int .i64 0]) (by simp [results, Try.results9, go_sem]) rfl ⟨rfl, ?_⟩
  repeat (first | exact Below.refl _ _ | assumption | refine Below.alloc ?_ (by simp <;> omega) _ | refine Below.setCell ?_ (by simp <;> omega) _)
theorem look_false   (w : World) : Calls Try.prog 9 #[.iface 48 (.bool false)] w fun e w' => e = .returned (lookP (.truth false)).val ∧ Bl w w' := by
  have as_whole : ∀ (w : World), (Instr.typeAssert (.iface 48 (.bool false)) 20 42 true).run Try.prog w = .ok (.tuple #[.int .i64 0, .bool false]) w := fun w => as_truth_whole false w
  have as_letter : ∀ (w : World), (Instr.typeAssert (.iface 48 (.bool false)) 20 50 true).run Try.prog w = .ok (.tuple #[.int .u8 0, .bool false]) w := fun w => as_truth_letter false w
  have as_truth : ∀ (w : World), (Instr.typeAssert (.iface 48 (.bool false)) 20 48 true).run Try.prog w = .ok (.tuple #[.bool false, .bool true]) w := fun w => as_truth_truth false w
  have as_bits : ∀ (w : World), (Instr.typeAssert (.iface 48 (.bool false)) 20 47 true).run Try.prog w = .ok (.tuple #[.int .u16 0, .bool false]) w := fun w => as_truth_bits false w
  have as_str : ∀ (w : World), (Instr.typeAssert (.iface 48 (.bool false)) 20 58 true).run Try.prog w = .ok (.tuple #[.string ByteArray.empty, .bool false]) w := fun w => as_truth_str false w
  have as_item : ∀ (w : World), (Instr.typeAssert (.iface 48 (.bool false)) 20 61 true).run Try.prog w = .ok (.tuple #[.agg #[.int .i64 0, .int .i64 0], .bool false]) w := fun w => as_truth_item false w
  have as_null : ∀ (w : World), (Instr.typeAssert (.iface 48 (.bool false)) 20 52 true).run Try.prog w = .ok (.tuple #[.agg #[], .bool false]) w := fun w => as_truth_null false w
  go_enter Try.func9, Try.ntmps9
  go_wp2_with fail
  refine bodyPost_ret (v := .agg #[.int .i64 3, .int .i64 0, .string ⟨#[]⟩, .int .i64 0]) (by simp [results, Try.results9, go_sem]) rfl ⟨rfl, ?_⟩
  repeat (first | exact Below.refl _ _ | assumption | refine Below.alloc ?_ (by simp <;> omega) _ | refine Below.setCell ?_ (by simp <;> omega) _)
theorem look_whole (n : Int) (h : inW n = true) (w : World) : Calls Try.prog 9 #[.iface 42 (.int .i64 n)] w fun e w' => e = .returned (lookP (.whole n)).val ∧ Bl w w' := by
  have as_whole : ∀ (w : World), (Instr.typeAssert (.iface 42 (.int .i64 n)) 20 42 true).run Try.prog w = .ok (.tuple #[.int .i64 n, .bool true]) w := fun w => as_whole_whole n w
  have as_letter : ∀ (w : World), (Instr.typeAssert (.iface 42 (.int .i64 n)) 20 50 true).run Try.prog w = .ok (.tuple #[.int .u8 0, .bool false]) w := fun w => as_whole_letter n w
  have as_truth : ∀ (w : World), (Instr.typeAssert (.iface 42 (.int .i64 n)) 20 48 true).run Try.prog w = .ok (.tuple #[.bool false, .bool false]) w := fun w => as_whole_truth n w
  have as_bits : ∀ (w : World), (Instr.typeAssert (.iface 42 (.int .i64 n)) 20 47 true).run Try.prog w = .ok (.tuple #[.int .u16 0, .bool false]) w := fun w => as_whole_bits n w
  have as_str : ∀ (w : World), (Instr.typeAssert (.iface 42 (.int .i64 n)) 20 58 true).run Try.prog w = .ok (.tuple #[.string ByteArray.empty, .bool false]) w := fun w => as_whole_str n w
  have as_item : ∀ (w : World), (Instr.typeAssert (.iface 42 (.int .i64 n)) 20 61 true).run Try.prog w = .ok (.tuple #[.agg #[.int .i64 0, .int .i64 0], .bool false]) w := fun w => as_whole_item n w
  have as_null : ∀ (w : World), (Instr.typeAssert (.iface 42 (.int .i64 n)) 20 52 true).run Try.prog w = .ok (.tuple #[.agg #[], .bool false]) w := fun w => as_whole_null n w
  have hb := inW_bd h
  have HH := Lib.hid h
  clear h
  obtain ⟨hb1, hb2⟩ := hb
  go_enter Try.func9, Try.ntmps9
  go_wp2_with fail
  refine bodyPost_ret (v := .agg #[.int .i64 1, .int .i64 n, .string ⟨#[]⟩, .int .i64 0]) (by simp [results, Try.results9, go_sem]) rfl ⟨by rw [show lookP (.whole n) = ⟨1, n, nilS, 0⟩ from if_pos HH.out]; rfl, ?_⟩
  repeat (first | exact Below.refl _ _ | assumption | refine Below.alloc ?_ (by simp <;> omega) _ | refine Below.setCell ?_ (by simp <;> omega) _)
theorem look_low (n : Int) (h : n < -32768) (w : World) : Calls Try.prog 9 #[.iface 42 (.int .i64 n)] w fun e w' => e = .returned (lookP (.whole n)).val ∧ Bl w w' := by
  have as_whole : ∀ (w : World), (Instr.typeAssert (.iface 42 (.int .i64 n)) 20 42 true).run Try.prog w = .ok (.tuple #[.int .i64 n, .bool true]) w := fun w => as_whole_whole n w
  have as_letter : ∀ (w : World), (Instr.typeAssert (.iface 42 (.int .i64 n)) 20 50 true).run Try.prog w = .ok (.tuple #[.int .u8 0, .bool false]) w := fun w => as_whole_letter n w
  have as_truth : ∀ (w : World), (Instr.typeAssert (.iface 42 (.int .i64 n)) 20 48 true).run Try.prog w = .ok (.tuple #[.bool false, .bool false]) w := fun w => as_whole_truth n w
  have as_bits : ∀ (w : World), (Instr.typeAssert (.iface 42 (.int .i64 n)) 20 47 true).run Try.prog w = .ok (.tuple #[.int .u16 0, .bool false]) w := fun w => as_whole_bits n w
  have as_str : ∀ (w : World), (Instr.typeAssert (.iface 42 (.int .i64 n)) 20 58 true).run Try.prog w = .ok (.tuple #[.string ByteArray.empty, .bool false]) w := fun w => as_whole_str n w
  have as_item : ∀ (w : World), (Instr.typeAssert (.iface 42 (.int .i64 n)) 20 61 true).run Try.prog w = .ok (.tuple #[.agg #[.int .i64 0, .int .i64 0], .bool false]) w := fun w => as_whole_item n w
  have as_null : ∀ (w : World), (Instr.typeAssert (.iface 42 (.int .i64 n)) 20 52 true).run Try.prog w = .ok (.tuple #[.agg #[], .bool false]) w := fun w => as_whole_null n w
  have HH := Lib.hid h
  go_enter Try.func9, Try.ntmps9
  go_wp2_with fail
  refine bodyPost_ret (v := .agg #[.int .i64 0, .int .i64 0, .string ⟨#[]⟩, .int .i64 0]) (by simp [results, Try.results9, go_sem]) rfl ⟨by rw [show lookP (.whole n) = ⟨0, 0, nilS, 0⟩ from if_neg (by have := HH.out; unfold inW; simp; omega)]; rfl, ?_⟩
  repeat (first | exact Below.refl _ _ | assumption | refine Below.alloc ?_ (by simp <;> omega) _ | refine Below.setCell ?_ (by simp <;> omega) _)
theorem look_high (n : Int) (h : 65535 < n) (w : World) : Calls Try.prog 9 #[.iface 42 (.int .i64 n)] w fun e w' => e = .returned (lookP (.whole n)).val ∧ Bl w w' := by
  have as_whole : ∀ (w : World), (Instr.typeAssert (.iface 42 (.int .i64 n)) 20 42 true).run Try.prog w = .ok (.tuple #[.int .i64 n, .bool true]) w := fun w => as_whole_whole n w
  have as_letter : ∀ (w : World), (Instr.typeAssert (.iface 42 (.int .i64 n)) 20 50 true).run Try.prog w = .ok (.tuple #[.int .u8 0, .bool false]) w := fun w => as_whole_letter n w
  have as_truth : ∀ (w : World), (Instr.typeAssert (.iface 42 (.int .i64 n)) 20 48 true).run Try.prog w = .ok (.tuple #[.bool false, .bool false]) w := fun w => as_whole_truth n w
  have as_bits : ∀ (w : World), (Instr.typeAssert (.iface 42 (.int .i64 n)) 20 47 true).run Try.prog w = .ok (.tuple #[.int .u16 0, .bool false]) w := fun w => as_whole_bits n w
  have as_str : ∀ (w : World), (Instr.typeAssert (.iface 42 (.int .i64 n)) 20 58 true).run Try.prog w = .ok (.tuple #[.string ByteArray.empty, .bool false]) w := fun w => as_whole_str n w
  have as_item : ∀ (w : World), (Instr.typeAssert (.iface 42 (.int .i64 n)) 20 61 true).run Try.prog w = .ok (.tuple #[.agg #[.int .i64 0, .int .i64 0], .bool false]) w := fun w => as_whole_item n w
  have as_null : ∀ (w : World), (Instr.typeAssert (.iface 42 (.int .i64 n)) 20 52 true).run Try.prog w = .ok (.tuple #[.agg #[], .bool false]) w := fun w => as_whole_null n w
  have HH := Lib.hid h
  have h2 : ¬ n < -32768 := by omega
  go_enter Try.func9, Try.ntmps9
  go_wp2_with fail
  refine bodyPost_ret (v := .agg #[.int .i64 0, .int .i64 0, .string ⟨#[]⟩, .int .i64 0]) (by simp [results, Try.results9, go_sem]) rfl ⟨by rw [show lookP (.whole n) = ⟨0, 0, nilS, 0⟩ from if_neg (by have := HH.out; unfold inW; simp; omega)]; rfl, ?_⟩
  repeat (first | exact Below.refl _ _ | assumption | refine Below.alloc ?_ (by simp <;> omega) _ | refine Below.setCell ?_ (by simp <;> omega) _)
theorem look_any (v : PV) (hv : v.wf) (w : World) : Calls Try.prog 9 #[v.val] w fun e w' => e = .returned (lookP v).val ∧ Bl w w' := by
  cases v with
  | none => exact look_none w
  | whole n =>
    cases h : inW n
    · by_cases h1 : n < -32768
      · exact look_low n h1 w
      · exact look_high n (by unfold inW at h; simp at h; omega) w
    · exact look_whole n h w
  | letter n => exact look_letter n hv w
  | truth b => cases b; exact look_false w; exact look_true w
  | bits n => exact look_bits n hv w
  | str s => exact look_str s w
  | item t n => exact look_item t n w
  | null => exact look_null w
  | num n => exact look_num n w
end Go.Proofs.Ytpnohljhpoildaa
