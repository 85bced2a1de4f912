/- Package konst: assertions, and the smallest calls. -/
import Derived.Test.YtepfknfadpkigaaProg
import Derived.Test.YtepfknfadpkigaaKnP
import Derived.WalkKit
import Derived.WalkLawsBesides
import Derived.KernelRfl
import Derived.Below
import Derived.Lib.Hide
import Derived.Deep.QuietTactic
import Derived.BigQuiet
import Derived.Laws.StructEq
namespace Go.Proofs.Ytepfknfadpkigaa
open Go.RowKit
set_option maxHeartbeats 1000000
set_option maxRecDepth 100000
set_option linter.unusedVariables false
set_option linter.unusedSimpArgs false

/-- A value, as the program has it. -/
def PV.val : PV → Value
  | .none => .nilIface
  | .whole n => .iface 106 (.int .i64 n)
  | .letter n => .iface 109 (.int .u8 n)
  | .truth b => .iface 111 (.bool b)
  | .bits n => .iface 114 (.int .u16 n)
  | .str s => .iface 69 (.string s)
  | .item t n => .iface 118 (.agg #[.int .i64 t, .int .i64 n])
  | .null => .iface 121 (.agg #[])
  | .num n => .iface 2 (.int .i64 n)
def TV.val (x : TV) : Value := .agg #[.int .i64 x.s, .int .i64 x.t, .string x.x, .int .i64 x.n]
/-- Nothing that was there has turned. -/
abbrev Bl (w w' : World) : Prop := Below w.heap.size w w'
theorem Bl.on {a b c : World} (h : Bl a b) (k : Bl b c) : Bl a c := h.trans (k.mono h.size)
theorem as_none_whole  (w : World) : (Instr.typeAssert (.nilIface) 20 106 true).run Try.prog w = .ok (.tuple #[.int .i64 0, .bool false]) w := by kernel_rfl
theorem as_none_letter  (w : World) : (Instr.typeAssert (.nilIface) 20 109 true).run Try.prog w = .ok (.tuple #[.int .u8 0, .bool false]) w := by kernel_rfl
theorem as_none_truth  (w : World) : (Instr.typeAssert (.nilIface) 20 111 true).run Try.prog w = .ok (.tuple #[.bool false, .bool false]) w := by kernel_rfl
theorem as_none_bits  (w : World) : (Instr.typeAssert (.nilIface) 20 114 true).run Try.prog w = .ok (.tuple #[.int .u16 0, .bool false]) w := by kernel_rfl
theorem as_none_str  (w : World) : (Instr.typeAssert (.nilIface) 20 69 true).run Try.prog w = .ok (.tuple #[.string ByteArray.empty, .bool false]) w := by kernel_rfl
theorem as_none_item  (w : World) : (Instr.typeAssert (.nilIface) 20 118 true).run Try.prog w = .ok (.tuple #[.agg #[.int .i64 0, .int .i64 0], .bool false]) w := by kernel_rfl
theorem as_none_null  (w : World) : (Instr.typeAssert (.nilIface) 20 121 true).run Try.prog w = .ok (.tuple #[.agg #[], .bool false]) w := by kernel_rfl
theorem as_whole_whole (n : Int) (w : World) : (Instr.typeAssert (.iface 106 (.int .i64 n)) 20 106 true).run Try.prog w = .ok (.tuple #[.int .i64 n, .bool true]) w := by kernel_rfl
theorem as_whole_letter (n : Int) (w : World) : (Instr.typeAssert (.iface 106 (.int .i64 n)) 20 109 true).run Try.prog w = .ok (.tuple #[.int .u8 0, .bool false]) w := by kernel_rfl
theorem as_whole_truth (n : Int) (w : World) : (Instr.typeAssert (.iface 106 (.int .i64 n)) 20 111 true).run Try.prog w = .ok (.tuple #[.bool false, .bool false]) w := by kernel_rfl
theorem as_whole_bits (n : Int) (w : World) : (Instr.typeAssert (.iface 106 (.int .i64 n)) 20 114 true).run Try.prog w = .ok (.tuple #[.int .u16 0, .bool false]) w := by kernel_rfl
theorem as_whole_str (n : Int) (w : World) : (Instr.typeAssert (.iface 106 (.int .i64 n)) 20 69 true).run Try.prog w = .ok (.tuple #[.string ByteArray.empty, .bool false]) w := by kernel_rfl
theorem as_whole_item (n : Int) (w : World) : (Instr.typeAssert (.iface 106 (.int .i64 n)) 20 118 true).run Try.prog w = .ok (.tuple #[.agg #[.int .i64 0, .int .i64 0], .bool false]) w := by kernel_rfl
theorem as_whole_null (n : Int) (w : World) : (Instr.typeAssert (.iface 106 (.int .i64 n)) 20 121 true).run Try.prog w = .ok (.tuple #[.agg #[], .bool false]) w := by kernel_rfl
theorem as_letter_whole (n : Int) (w : World) : (Instr.typeAssert (.iface 109 (.int .u8 n)) 20 106 true).run Try.prog w = .ok (.tuple #[.int .i64 0, .bool false]) w := by kernel_rfl
theorem as_letter_letter (n : Int) (w : World) : (Instr.typeAssert (.iface 109 (.int .u8 n)) 20 109 true).run Try.prog w = .ok (.tuple #[.int .u8 n, .bool true]) w := by kernel_rfl
theorem as_letter_truth (n : Int) (w : World) : (Instr.typeAssert (.iface 109 (.int .u8 n)) 20 111 true).run Try.prog w = .ok (.tuple #[.bool false, .bool false]) w := by kernel_rfl
theorem as_letter_bits (n : Int) (w : World) : (Instr.typeAssert (.iface 109 (.int .u8 n)) 20 114 true).run Try.prog w = .ok (.tuple #[.int .u16 0, .bool false]) w := by kernel_rfl
theorem as_letter_str (n : Int) (w : World) : (Instr.typeAssert (.iface 109 (.int .u8 n)) 20 69 true).run Try.prog w = .ok (.tuple #[.string ByteArray.empty, .bool false]) w := by kernel_rfl
theorem as_letter_item (n : Int) (w : World) : (Instr.typeAssert (.iface 109 (.int .u8 n)) 20 118 true).run Try.prog w = .ok (.tuple #[.agg #[.int .i64 0, .int .i64 0], .bool false]) w := by kernel_rfl
theorem as_letter_null (n : Int) (w : World) : (Instr.typeAssert (.iface 109 (.int .u8 n)) 20 121 true).run Try.prog w = .ok (.tuple #[.agg #[], .bool false]) w := by kernel_rfl
theorem as_truth_whole (b : Bool) (w : World) : (Instr.typeAssert (.iface 111 (.bool b)) 20 106 true).run Try.prog w = .ok (.tuple #[.int .i64 0, .bool false]) w := by kernel_rfl
theorem as_truth_letter (b : Bool) (w : World) : (Instr.typeAssert (.iface 111 (.bool b)) 20 109 true).run Try.prog w = .ok (.tuple #[.int .u8 0, .bool false]) w := by kernel_rfl
theorem as_truth_truth (b : Bool) (w : World) : (Instr.typeAssert (.iface 111 (.bool b)) 20 111 true).run Try.prog w = .ok (.tuple #[.bool b, .bool true]) w := by kernel_rfl
theorem as_truth_bits (b : Bool) (w : World) : (Instr.typeAssert (.iface 111 (.bool b)) 20 114 true).run Try.prog w = .ok (.tuple #[.int .u16 0, .bool false]) w := by kernel_rfl
theorem as_truth_str (b : Bool) (w : World) : (Instr.typeAssert (.iface 111 (.bool b)) 20 69 true).run Try.prog w = .ok (.tuple #[.string ByteArray.empty, .bool false]) w := by kernel_rfl
theorem as_truth_item (b : Bool) (w : World) : (Instr.typeAssert (.iface 111 (.bool b)) 20 118 true).run Try.prog w = .ok (.tuple #[.agg #[.int .i64 0, .int .i64 0], .bool false]) w := by kernel_rfl
theorem as_truth_null (b : Bool) (w : World) : (Instr.typeAssert (.iface 111 (.bool b)) 20 121 true).run Try.prog w = .ok (.tuple #[.agg #[], .bool false]) w := by kernel_rfl
theorem as_bits_whole (n : Int) (w : World) : (Instr.typeAssert (.iface 114 (.int .u16 n)) 20 106 true).run Try.prog w = .ok (.tuple #[.int .i64 0, .bool false]) w := by kernel_rfl
theorem as_bits_letter (n : Int) (w : World) : (Instr.typeAssert (.iface 114 (.int .u16 n)) 20 109 true).run Try.prog w = .ok (.tuple #[.int .u8 0, .bool false]) w := by kernel_rfl
theorem as_bits_truth (n : Int) (w : World) : (Instr.typeAssert (.iface 114 (.int .u16 n)) 20 111 true).run Try.prog w = .ok (.tuple #[.bool false, .bool false]) w := by kernel_rfl
theorem as_bits_bits (n : Int) (w : World) : (Instr.typeAssert (.iface 114 (.int .u16 n)) 20 114 true).run Try.prog w = .ok (.tuple #[.int .u16 n, .bool true]) w := by kernel_rfl
theorem as_bits_str (n : Int) (w : World) : (Instr.typeAssert (.iface 114 (.int .u16 n)) 20 69 true).run Try.prog w = .ok (.tuple #[.string ByteArray.empty, .bool false]) w := by kernel_rfl
theorem as_bits_item (n : Int) (w : World) : (Instr.typeAssert (.iface 114 (.int .u16 n)) 20 118 true).run Try.prog w = .ok (.tuple #[.agg #[.int .i64 0, .int .i64 0], .bool false]) w := by kernel_rfl
theorem as_bits_null (n : Int) (w : World) : (Instr.typeAssert (.iface 114 (.int .u16 n)) 20 121 true).run Try.prog w = .ok (.tuple #[.agg #[], .bool false]) w := by kernel_rfl
theorem as_str_whole (s : ByteArray) (w : World) : (Instr.typeAssert (.iface 69 (.string s)) 20 106 true).run Try.prog w = .ok (.tuple #[.int .i64 0, .bool false]) w := by kernel_rfl
theorem as_str_letter (s : ByteArray) (w : World) : (Instr.typeAssert (.iface 69 (.string s)) 20 109 true).run Try.prog w = .ok (.tuple #[.int .u8 0, .bool false]) w := by kernel_rfl
theorem as_str_truth (s : ByteArray) (w : World) : (Instr.typeAssert (.iface 69 (.string s)) 20 111 true).run Try.prog w = .ok (.tuple #[.bool false, .bool false]) w := by kernel_rfl
theorem as_str_bits (s : ByteArray) (w : World) : (Instr.typeAssert (.iface 69 (.string s)) 20 114 true).run Try.prog w = .ok (.tuple #[.int .u16 0, .bool false]) w := by kernel_rfl
theorem as_str_str (s : ByteArray) (w : World) : (Instr.typeAssert (.iface 69 (.string s)) 20 69 true).run Try.prog w = .ok (.tuple #[.string s, .bool true]) w := by kernel_rfl
theorem as_str_item (s : ByteArray) (w : World) : (Instr.typeAssert (.iface 69 (.string s)) 20 118 true).run Try.prog w = .ok (.tuple #[.agg #[.int .i64 0, .int .i64 0], .bool false]) w := by kernel_rfl
theorem as_str_null (s : ByteArray) (w : World) : (Instr.typeAssert (.iface 69 (.string s)) 20 121 true).run Try.prog w = .ok (.tuple #[.agg #[], .bool false]) w := by kernel_rfl
theorem as_item_whole (t n : Int) (w : World) : (Instr.typeAssert (.iface 118 (.agg #[.int .i64 t, .int .i64 n])) 20 106 true).run Try.prog w = .ok (.tuple #[.int .i64 0, .bool false]) w := by kernel_rfl
theorem as_item_letter (t n : Int) (w : World) : (Instr.typeAssert (.iface 118 (.agg #[.int .i64 t, .int .i64 n])) 20 109 true).run Try.prog w = .ok (.tuple #[.int .u8 0, .bool false]) w := by kernel_rfl
theorem as_item_truth (t n : Int) (w : World) : (Instr.typeAssert (.iface 118 (.agg #[.int .i64 t, .int .i64 n])) 20 111 true).run Try.prog w = .ok (.tuple #[.bool false, .bool false]) w := by kernel_rfl
theorem as_item_bits (t n : Int) (w : World) : (Instr.typeAssert (.iface 118 (.agg #[.int .i64 t, .int .i64 n])) 20 114 true).run Try.prog w = .ok (.tuple #[.int .u16 0, .bool false]) w := by kernel_rfl
theorem as_item_str (t n : Int) (w : World) : (Instr.typeAssert (.iface 118 (.agg #[.int .i64 t, .int .i64 n])) 20 69 true).run Try.prog w = .ok (.tuple #[.string ByteArray.empty, .bool false]) w := by kernel_rfl
theorem as_item_item (t n : Int) (w : World) : (Instr.typeAssert (.iface 118 (.agg #[.int .i64 t, .int .i64 n])) 20 118 true).run Try.prog w = .ok (.tuple #[.agg #[.int .i64 t, .int .i64 n], .bool true]) w := by kernel_rfl
theorem as_item_null (t n : Int) (w : World) : (Instr.typeAssert (.iface 118 (.agg #[.int .i64 t, .int .i64 n])) 20 121 true).run Try.prog w = .ok (.tuple #[.agg #[], .bool false]) w := by kernel_rfl
theorem as_null_whole  (w : World) : (Instr.typeAssert (.iface 121 (.agg #[])) 20 106 true).run Try.prog w = .ok (.tuple #[.int .i64 0, .bool false]) w := by kernel_rfl
theorem as_null_letter  (w : World) : (Instr.typeAssert (.iface 121 (.agg #[])) 20 109 true).run Try.prog w = .ok (.tuple #[.int .u8 0, .bool false]) w := by kernel_rfl
theorem as_null_truth  (w : World) : (Instr.typeAssert (.iface 121 (.agg #[])) 20 111 true).run Try.prog w = .ok (.tuple #[.bool false, .bool false]) w := by kernel_rfl
theorem as_null_bits  (w : World) : (Instr.typeAssert (.iface 121 (.agg #[])) 20 114 true).run Try.prog w = .ok (.tuple #[.int .u16 0, .bool false]) w := by kernel_rfl
theorem as_null_str  (w : World) : (Instr.typeAssert (.iface 121 (.agg #[])) 20 69 true).run Try.prog w = .ok (.tuple #[.string ByteArray.empty, .bool false]) w := by kernel_rfl
theorem as_null_item  (w : World) : (Instr.typeAssert (.iface 121 (.agg #[])) 20 118 true).run Try.prog w = .ok (.tuple #[.agg #[.int .i64 0, .int .i64 0], .bool false]) w := by kernel_rfl
theorem as_null_null  (w : World) : (Instr.typeAssert (.iface 121 (.agg #[])) 20 121 true).run Try.prog w = .ok (.tuple #[.agg #[], .bool true]) w := by kernel_rfl
theorem as_num_whole (n : Int) (w : World) : (Instr.typeAssert (.iface 2 (.int .i64 n)) 20 106 true).run Try.prog w = .ok (.tuple #[.int .i64 0, .bool false]) w := by kernel_rfl
theorem as_num_letter (n : Int) (w : World) : (Instr.typeAssert (.iface 2 (.int .i64 n)) 20 109 true).run Try.prog w = .ok (.tuple #[.int .u8 0, .bool false]) w := by kernel_rfl
theorem as_num_truth (n : Int) (w : World) : (Instr.typeAssert (.iface 2 (.int .i64 n)) 20 111 true).run Try.prog w = .ok (.tuple #[.bool false, .bool false]) w := by kernel_rfl
theorem as_num_bits (n : Int) (w : World) : (Instr.typeAssert (.iface 2 (.int .i64 n)) 20 114 true).run Try.prog w = .ok (.tuple #[.int .u16 0, .bool false]) w := by kernel_rfl
theorem as_num_str (n : Int) (w : World) : (Instr.typeAssert (.iface 2 (.int .i64 n)) 20 69 true).run Try.prog w = .ok (.tuple #[.string ByteArray.empty, .bool false]) w := by kernel_rfl
theorem as_num_item (n : Int) (w : World) : (Instr.typeAssert (.iface 2 (.int .i64 n)) 20 118 true).run Try.prog w = .ok (.tuple #[.agg #[.int .i64 0, .int .i64 0], .bool false]) w := by kernel_rfl
theorem as_num_null (n : Int) (w : World) : (Instr.typeAssert (.iface 2 (.int .i64 n)) 20 121 true).run Try.prog w = .ok (.tuple #[.agg #[], .bool false]) w := by kernel_rfl
theorem within_any (n : Int) (w : World) : Calls Try.prog 62 #[.int .i64 n] w fun e w' => e = .returned (.bool (inW n)) ∧ w' = w := by
  by_cases h1 : -32768 ≤ n
  · by_cases h2 : n ≤ 65535
    · have h : inW n = true := by unfold inW; simp [h1, h2]
      have H := Lib.hid h
      clear h
      go_enter Try.func62, Try.ntmps62
      go_wp2
      go_ret
      exact ⟨(congrArg (fun b => Ending.returned (Value.bool b)) H.out).symm, rfl⟩
    · have h : inW n = false := by unfold inW; simp [h2]
      have H := Lib.hid h
      clear h
      go_enter Try.func62, Try.ntmps62
      go_wp2
      go_ret
      exact ⟨(congrArg (fun b => Ending.returned (Value.bool b)) H.out).symm, rfl⟩
  · have h : inW n = false := by unfold inW; simp [h1]
    have H := Lib.hid h
    clear h
    go_enter Try.func62, Try.ntmps62
    go_wp2
    go_ret
    exact ⟨(congrArg (fun b => Ending.returned (Value.bool b)) H.out).symm, rfl⟩
theorem ordinal_any (b : Bool) (w : World) : Calls Try.prog 63 #[.bool b] w fun e w' => e = .returned (.int .i64 (b2i b)) ∧ w' = w := by
  cases b
  · go_enter Try.func63, Try.ntmps63
    go_wp2
    go_ret
    exact ⟨rfl, rfl⟩
  · go_enter Try.func63, Try.ntmps63
    go_wp2
    go_ret
    exact ⟨rfl, rfl⟩
theorem letter_any (s : ByteArray) (hs : s.size ≤ 9223372036854775807) (w : World) : Calls Try.prog 64 #[.string s] w fun e w' => e = .returned (.int .i64 (let1 s)) ∧ w' = w := by
  by_cases h : s.size = 1
  · have hb : ∃ c, s.data = #[c] := by
      obtain ⟨d⟩ := s
      have h : d.size = 1 := h
      refine ⟨d[0], ?_⟩
      apply Array.ext
      · simp [h]
      · intro i p q
        obtain rfl : i = 0 := by simp at q; omega
        rfl
    obtain ⟨c, hc⟩ := hb
    obtain ⟨d⟩ := s
    simp only at hc
    subst hc
    have hl : let1 ⟨#[c]⟩ = (c.toNat : Int) := rfl
    have hlt : (c.toNat : Int) ≤ 255 := by have := c.toNat_lt; omega
    have hw : wrap64 (c.toNat : Int) = (c.toNat : Int) := by unfold wrap64; omega
    have HW := Lib.hid hw
    clear hw
    have H := Lib.hid hl
    clear hl h
    go_enter Try.func64, Try.ntmps64
    go_wp2
    go_ret
    exact ⟨congrArg (fun z => Ending.returned (Value.int .i64 z)) (HW.out.trans H.out.symm), rfl⟩
  · have hl : let1 s = 0 := by unfold let1; rw [if_neg h]
    have H := Lib.hid hl
    have hn : ((s.size : Int) != 1) = true := by rw [bne_iff_ne]; omega
    clear hl h
    go_enter Try.func64, Try.ntmps64
    go_wp2
    go_ret
    exact ⟨congrArg (fun z => Ending.returned (Value.int .i64 z)) H.out.symm, rfl⟩
end Go.Proofs.Ytepfknfadpkigaa
