/- Package konst: assertions, and the smallest calls. -/
import Derived.Test.YtpnohljhpoildaaProg
import Derived.Test.YtpnohljhpoildaaKnP
import Derived.WalkKit
import Derived.WalkLawsBesides
import Derived.KernelRfl
import Derived.Below
import Derived.Lib.Hide
import Derived.Deep.QuietTactic
import Derived.BigQuiet
import Derived.Laws.StructEq
namespace Go.Proofs.Ytpnohljhpoildaa
open Go.RowKit
set_option maxHeartbeats 1000000
set_option maxRecDepth 100000
set_option linter.unusedVariables false
set_option linter.unusedSimpArgs false

/-- A value, as the program has it. -/
def PV.val : PV → Value
  | .none => .nilIface
  | .whole n => .iface 42 (.int .i64 n)
  | .letter n => .iface 50 (.int .u8 n)
  | .truth b => .iface 48 (.bool b)
  | .bits n => .iface 47 (.int .u16 n)
  | .str s => .iface 58 (.string s)
  | .item t n => .iface 61 (.agg #[.int .i64 t, .int .i64 n])
  | .null => .iface 52 (.agg #[])
  | .num n => .iface 2 (.int .i64 n)
def TV.val (x : TV) : Value := .agg #[.int .i64 x.s, .int .i64 x.t, .string x.x, .int .i64 x.n]
/-- Nothing that was there has turned. -/
abbrev Bl (w w' : World) : Prop := Below w.heap.size w w'
theorem Bl.on {a b c : World} (h : Bl a b) (k : Bl b c) : Bl a c := h.trans (k.mono h.size)
theorem as_none_whole  (w : World) : (Instr.typeAssert (.nilIface) 20 42 true).run Try.prog w = .ok (.tuple #[.int .i64 0, .bool false]) w := by kernel_rfl
theorem as_none_letter  (w : World) : (Instr.typeAssert (.nilIface) 20 50 true).run Try.prog w = .ok (.tuple #[.int .u8 0, .bool false]) w := by kernel_rfl
theorem as_none_truth  (w : World) : (Instr.typeAssert (.nilIface) 20 48 true).run Try.prog w = .ok (.tuple #[.bool false, .bool false]) w := by kernel_rfl
theorem as_none_bits  (w : World) : (Instr.typeAssert (.nilIface) 20 47 true).run Try.prog w = .ok (.tuple #[.int .u16 0, .bool false]) w := by kernel_rfl
theorem as_none_str  (w : World) : (Instr.typeAssert (.nilIface) 20 58 true).run Try.prog w = .ok (.tuple #[.string ByteArray.empty, .bool false]) w := by kernel_rfl
theorem as_none_item  (w : World) : (Instr.typeAssert (.nilIface) 20 61 true).run Try.prog w = .ok (.tuple #[.agg #[.int .i64 0, .int .i64 0], .bool false]) w := by kernel_rfl
theorem as_none_null  (w : World) : (Instr.typeAssert (.nilIface) 20 52 true).run Try.prog w = .ok (.tuple #[.agg #[], .bool false]) w := by kernel_rfl
theorem as_whole_whole (n : Int) (w : World) : (Instr.typeAssert (.iface 42 (.int .i64 n)) 20 42 true).run Try.prog w = .ok (.tuple #[.int .i64 n, .bool true]) w := by kernel_rfl
theorem as_whole_letter (n : Int) (w : World) : (Instr.typeAssert (.iface 42 (.int .i64 n)) 20 50 true).run Try.prog w = .ok (.tuple #[.int .u8 0, .bool false]) w := by kernel_rfl
theorem as_whole_truth (n : Int) (w : World) : (Instr.typeAssert (.iface 42 (.int .i64 n)) 20 48 true).run Try.prog w = .ok (.tuple #[.bool false, .bool false]) w := by kernel_rfl
theorem as_whole_bits (n : Int) (w : World) : (Instr.typeAssert (.iface 42 (.int .i64 n)) 20 47 true).run Try.prog w = .ok (.tuple #[.int .u16 0, .bool false]) w := by kernel_rfl
theorem as_whole_str (n : Int) (w : World) : (Instr.typeAssert (.iface 42 (.int .i64 n)) 20 58 true).run Try.prog w = .ok (.tuple #[.string ByteArray.empty, .bool false]) w := by kernel_rfl
theorem as_whole_item (n : Int) (w : World) : (Instr.typeAssert (.iface 42 (.int .i64 n)) 20 61 true).run Try.prog w = .ok (.tuple #[.agg #[.int .i64 0, .int .i64 0], .bool false]) w := by kernel_rfl
theorem as_whole_null (n : Int) (w : World) : (Instr.typeAssert (.iface 42 (.int .i64 n)) 20 52 true).run Try.prog w = .ok (.tuple #[.agg #[], .bool false]) w := by kernel_rfl
theorem as_letter_whole (n : Int) (w : World) : (Instr.typeAssert (.iface 50 (.int .u8 n)) 20 42 true).run Try.prog w = .ok (.tuple #[.int .i64 0, .bool false]) w := by kernel_rfl
theorem as_letter_letter (n : Int) (w : World) : (Instr.typeAssert (.iface 50 (.int .u8 n)) 20 50 true).run Try.prog w = .ok (.tuple #[.int .u8 n, .bool true]) w := by kernel_rfl
theorem as_letter_truth (n : Int) (w : World) : (Instr.typeAssert (.iface 50 (.int .u8 n)) 20 48 true).run Try.prog w = .ok (.tuple #[.bool false, .bool false]) w := by kernel_rfl
theorem as_letter_bits (n : Int) (w : World) : (Instr.typeAssert (.iface 50 (.int .u8 n)) 20 47 true).run Try.prog w = .ok (.tuple #[.int .u16 0, .bool false]) w := by kernel_rfl
theorem as_letter_str (n : Int) (w : World) : (Instr.typeAssert (.iface 50 (.int .u8 n)) 20 58 true).run Try.prog w = .ok (.tuple #[.string ByteArray.empty, .bool false]) w := by kernel_rfl
theorem as_letter_item (n : Int) (w : World) : (Instr.typeAssert (.iface 50 (.int .u8 n)) 20 61 true).run Try.prog w = .ok (.tuple #[.agg #[.int .i64 0, .int .i64 0], .bool false]) w := by kernel_rfl
theorem as_letter_null (n : Int) (w : World) : (Instr.typeAssert (.iface 50 (.int .u8 n)) 20 52 true).run Try.prog w = .ok (.tuple #[.agg #[], .bool false]) w := by kernel_rfl
theorem as_truth_whole (b : Bool) (w : World) : (Instr.typeAssert (.iface 48 (.bool b)) 20 42 true).run Try.prog w = .ok (.tuple #[.int .i64 0, .bool false]) w := by kernel_rfl
theorem as_truth_letter (b : Bool) (w : World) : (Instr.typeAssert (.iface 48 (.bool b)) 20 50 true).run Try.prog w = .ok (.tuple #[.int .u8 0, .bool false]) w := by kernel_rfl
theorem as_truth_truth (b : Bool) (w : World) : (Instr.typeAssert (.iface 48 (.bool b)) 20 48 true).run Try.prog w = .ok (.tuple #[.bool b, .bool true]) w := by kernel_rfl
theorem as_truth_bits (b : Bool) (w : World) : (Instr.typeAssert (.iface 48 (.bool b)) 20 47 true).run Try.prog w = .ok (.tuple #[.int .u16 0, .bool false]) w := by kernel_rfl
theorem as_truth_str (b : Bool) (w : World) : (Instr.typeAssert (.iface 48 (.bool b)) 20 58 true).run Try.prog w = .ok (.tuple #[.string ByteArray.empty, .bool false]) w := by kernel_rfl
theorem as_truth_item (b : Bool) (w : World) : (Instr.typeAssert (.iface 48 (.bool b)) 20 61 true).run Try.prog w = .ok (.tuple #[.agg #[.int .i64 0, .int .i64 0], .bool false]) w := by kernel_rfl
theorem as_truth_null (b : Bool) (w : World) : (Instr.typeAssert (.iface 48 (.bool b)) 20 52 true).run Try.prog w = .ok (.tuple #[.agg #[], .bool false]) w := by kernel_rfl
theorem as_bits_whole (n : Int) (w : World) : (Instr.typeAssert (.iface 47 (.int .u16 n)) 20 42 true).run Try.prog w = .ok (.tuple #[.int .i64 0, .bool false]) w := by kernel_rfl
theorem as_bits_letter (n : Int) (w : World) : (Instr.typeAssert (.iface 47 (.int .u16 n)) 20 50 true).run Try.prog w = .ok (.tuple #[.int .u8 0, .bool false]) w := by kernel_rfl
theorem as_bits_truth (n : Int) (w : World) : (Instr.typeAssert (.iface 47 (.int .u16 n)) 20 48 true).run Try.prog w = .ok (.tuple #[.bool false, .bool false]) w := by kernel_rfl
theorem as_bits_bits (n : Int) (w : World) : (Instr.typeAssert (.iface 47 (.int .u16 n)) 20 47 true).run Try.prog w = .ok (.tuple #[.int .u16 n, .bool true]) w := by kernel_rfl
theorem as_bits_str (n : Int) (w : World) : (Instr.typeAssert (.iface 47 (.int .u16 n)) 20 58 true).run Try.prog w = .ok (.tuple #[.string ByteArray.empty, .bool false]) w := by kernel_rfl
theorem as_bits_item (n : Int) (w : World) : (Instr.typeAssert (.iface 47 (.int .u16 n)) 20 61 true).run Try.prog w = .ok (.tuple #[.agg #[.int .i64 0, .int .i64 0], .bool false]) w := by kernel_rfl
theorem as_bits_null (n : Int) (w : World) : (Instr.typeAssert (.iface 47 (.int .u16 n)) 20 52 true).run Try.prog w = .ok (.tuple #[.agg #[], .bool false]) w := by kernel_rfl
theorem as_str_whole (s : ByteArray) (w : World) : (Instr.typeAssert (.iface 58 (.string s)) 20 42 true).run Try.prog w = .ok (.tuple #[.int .i64 0, .bool false]) w := by kernel_rfl
theorem as_str_letter (s : ByteArray) (w : World) : (Instr.typeAssert (.iface 58 (.string s)) 20 50 true).run Try.prog w = .ok (.tuple #[.int .u8 0, .bool false]) w := by kernel_rfl
theorem as_str_truth (s : ByteArray) (w : World) : (Instr.typeAssert (.iface 58 (.string s)) 20 48 true).run Try.prog w = .ok (.tuple #[.bool false, .bool false]) w := by kernel_rfl
theorem as_str_bits (s : ByteArray) (w : World) : (Instr.typeAssert (.iface 58 (.string s)) 20 47 true).run Try.prog w = .ok (.tuple #[.int .u16 0, .bool false]) w := by kernel_rfl
theorem as_str_str (s : ByteArray) (w : World) : (Instr.typeAssert (.iface 58 (.string s)) 20 58 true).run Try.prog w = .ok (.tuple #[.string s, .bool true]) w := by kernel_rfl
theorem as_str_item (s : ByteArray) (w : World) : (Instr.typeAssert (.iface 58 (.string s)) 20 61 true).run Try.prog w = .ok (.tuple #[.agg #[.int .i64 0, .int .i64 0], .bool false]) w := by kernel_rfl
theorem as_str_null (s : ByteArray) (w : World) : (Instr.typeAssert (.iface 58 (.string s)) 20 52 true).run Try.prog w = .ok (.tuple #[.agg #[], .bool false]) w := by kernel_rfl
theorem as_item_whole (t n : Int) (w : World) : (Instr.typeAssert (.iface 61 (.agg #[.int .i64 t, .int .i64 n])) 20 42 true).run Try.prog w = .ok (.tuple #[.int .i64 0, .bool false]) w := by kernel_rfl
theorem as_item_letter (t n : Int) (w : World) : (Instr.typeAssert (.iface 61 (.agg #[.int .i64 t, .int .i64 n])) 20 50 true).run Try.prog w = .ok (.tuple #[.int .u8 0, .bool false]) w := by kernel_rfl
theorem as_item_truth (t n : Int) (w : World) : (Instr.typeAssert (.iface 61 (.agg #[.int .i64 t, .int .i64 n])) 20 48 true).run Try.prog w = .ok (.tuple #[.bool false, .bool false]) w := by kernel_rfl
theorem as_item_bits (t n : Int) (w : World) : (Instr.typeAssert (.iface 61 (.agg #[.int .i64 t, .int .i64 n])) 20 47 true).run Try.prog w = .ok (.tuple #[.int .u16 0, .bool false]) w := by kernel_rfl
theorem as_item_str (t n : Int) (w : World) : (Instr.typeAssert (.iface 61 (.agg #[.int .i64 t, .int .i64 n])) 20 58 true).run Try.prog w = .ok (.tuple #[.string ByteArray.empty, .bool false]) w := by kernel_rfl
theorem as_item_item (t n : Int) (w : World) : (Instr.typeAssert (.iface 61 (.agg #[.int .i64 t, .int .i64 n])) 20 61 true).run Try.prog w = .ok (.tuple #[.agg #[.int .i64 t, .int .i64 n], .bool true]) w := by kernel_rfl
theorem as_item_null (t n : Int) (w : World) : (Instr.typeAssert (.iface 61 (.agg #[.int .i64 t, .int .i64 n])) 20 52 true).run Try.prog w = .ok (.tuple #[.agg #[], .bool false]) w := by kernel_rfl
theorem as_null_whole  (w : World) : (Instr.typeAssert (.iface 52 (.agg #[])) 20 42 true).run Try.prog w = .ok (.tuple #[.int .i64 0, .bool false]) w := by kernel_rfl
theorem as_null_letter  (w : World) : (Instr.typeAssert (.iface 52 (.agg #[])) 20 50 true).run Try.prog w = .ok (.tuple #[.int .u8 0, .bool false]) w := by kernel_rfl
theorem as_null_truth  (w : World) : (Instr.typeAssert (.iface 52 (.agg #[])) 20 48 true).run Try.prog w = .ok (.tuple #[.bool false, .bool false]) w := by kernel_rfl
theorem as_null_bits  (w : World) : (Instr.typeAssert (.iface 52 (.agg #[])) 20 47 true).run Try.prog w = .ok (.tuple #[.int .u16 0, .bool false]) w := by kernel_rfl
theorem as_null_str  (w : World) : (Instr.typeAssert (.iface 52 (.agg #[])) 20 58 true).run Try.prog w = .ok (.tuple #[.string ByteArray.empty, .bool false]) w := by kernel_rfl
theorem as_null_item  (w : World) : (Instr.typeAssert (.iface 52 (.agg #[])) 20 61 true).run Try.prog w = .ok (.tuple #[.agg #[.int .i64 0, .int .i64 0], .bool false]) w := by kernel_rfl
theorem as_null_null  (w : World) : (Instr.typeAssert (.iface 52 (.agg #[])) 20 52 true).run Try.prog w = .ok (.tuple #[.agg #[], .bool true]) w := by kernel_rfl
theorem as_num_whole (n : Int) (w : World) : (Instr.typeAssert (.iface 2 (.int .i64 n)) 20 42 true).run Try.prog w = .ok (.tuple #[.int .i64 0, .bool false]) w := by kernel_rfl
theorem as_num_letter (n : Int) (w : World) : (Instr.typeAssert (.iface 2 (.int .i64 n)) 20 50 true).run Try.prog w = .ok (.tuple #[.int .u8 0, .bool false]) w := by kernel_rfl
theorem as_num_truth (n : Int) (w : World) : (Instr.typeAssert (.iface 2 (.int .i64 n)) 20 48 true).run Try.prog w = .ok (.tuple #[.bool false, .bool false]) w := by kernel_rfl
theorem as_num_bits (n : Int) (w : World) : (Instr.typeAssert (.iface 2 (.int .i64 n)) 20 47 true).run Try.prog w = .ok (.tuple #[.int .u16 0, .bool false]) w := by kernel_rfl
theorem as_num_str (n : Int) (w : World) : (Instr.typeAssert (.iface 2 (.int .i64 n)) 20 58 true).run Try.prog w = .ok (.tuple #[.string ByteArray.empty, .bool false]) w := by kernel_rfl
theorem as_num_item (n : Int) (w : World) : (Instr.typeAssert (.iface 2 (.int .i64 n)) 20 61 true).run Try.prog w = .ok (.tuple #[.agg #[.int .i64 0, .int .i64 0], .bool false]) w := by kernel_rfl
theorem as_num_null (n : Int) (w : World) : (Instr.typeAssert (.iface 2 (.int .i64 n)) 20 52 true).run Try.prog w = .ok (.tuple #[.agg #[], .bool false]) w := by kernel_rfl
theorem within_any (n : Int) (w : World) : Calls Try.prog 37 #[.int .i64 n] w fun e w' => e = .returned (.bool (inW n)) ∧ w' = w := by
  by_cases h1 : -32768 ≤ n
  · by_cases h2 : n ≤ 65535
    · have h : inW n = true := by unfold inW; simp [h1, h2]
      have H := Lib.hid h
      clear h
      go_enter Try.func37, Try.ntmps37
      go_wp2
      go_ret
      exact ⟨(congrArg (fun b => Ending.returned (Value.bool b)) H.out).symm, rfl⟩
    · have h : inW n = false := by unfold inW; simp [h2]
      have H := Lib.hid h
      clear h
      go_enter Try.func37, Try.ntmps37
      go_wp2
      go_ret
      exact ⟨(congrArg (fun b => Ending.returned (Value.bool b)) H.out).symm, rfl⟩
  · have h : inW n = false := by unfold inW; simp [h1]
    have H := Lib.hid h
    clear h
    go_enter Try.func37, Try.ntmps37
    go_wp2
    go_ret
    exact ⟨(congrArg (fun b => Ending.returned (Value.bool b)) H.out).symm, rfl⟩
theorem ordinal_any (b : Bool) (w : World) : Calls Try.prog 38 #[.bool b] w fun e w' => e = .returned (.int .i64 (b2i b)) ∧ w' = w := by
  cases b
  · go_enter Try.func38, Try.ntmps38
    go_wp2
    go_ret
    exact ⟨rfl, rfl⟩
  · go_enter Try.func38, Try.ntmps38
    go_wp2
    go_ret
    exact ⟨rfl, rfl⟩
theorem letter_any (s : ByteArray) (hs : s.size ≤ 9223372036854775807) (w : World) : Calls Try.prog 39 #[.string s] w fun e w' => e = .returned (.int .i64 (let1 s)) ∧ w' = w := by
  by_cases h : s.size = 1
  · have hb : ∃ c, s.data = #[c] := by
      obtain ⟨d⟩ := s
      have h : d.size = 1 := h
      refine ⟨d[0], ?_⟩
      apply Array.ext
      · simp [h]
      · intro i p q
        obtain rfl : i = 0 := by simp at q; omega
        rfl
    obtain ⟨c, hc⟩ := hb
    obtain ⟨d⟩ := s
    simp only at hc
    subst hc
    have hl : let1 ⟨#[c]⟩ = (c.toNat : Int) := rfl
    have hlt : (c.toNat : Int) ≤ 255 := by have := c.toNat_lt; omega
    have hw : wrap64 (c.toNat : Int) = (c.toNat : Int) := by unfold wrap64; omega
    have HW := Lib.hid hw
    clear hw
    have H := Lib.hid hl
    clear hl h
    go_enter Try.func39, Try.ntmps39
    go_wp2
    go_ret
    exact ⟨congrArg (fun z => Ending.returned (Value.int .i64 z)) (HW.out.trans H.out.symm), rfl⟩
  · have hl : let1 s = 0 := by unfold let1; rw [if_neg h]
    have H := Lib.hid hl
    have hn : ((s.size : Int) != 1) = true := by rw [bne_iff_ne]; omega
    clear hl h
    go_enter Try.func39, Try.ntmps39
    go_wp2
    go_ret
    exact ⟨congrArg (fun z => Ending.returned (Value.int .i64 z)) H.out.symm, rfl⟩
end Go.Proofs.Ytpnohljhpoildaa
