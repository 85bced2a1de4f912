/- Layer 4: bytes, strings and tokens in walks. -/
import Derived.Test.YtggembknccbpnaaGreatMxA
import Derived.Test.YtggembknccbpnaaGreatPlZ
namespace Go.Proofs.YtggembknccbpnaaGreat
open Go.RowKit
set_option maxHeartbeats 1000000
set_option maxRecDepth 100000
set_option linter.unusedVariables false

theorem byte_cmp (c : UInt8) (k : Nat) : decide ((k : Int) ≤ (c.toNat : Int)) = decide (k ≤ c.toNat) := by
  by_cases h : k ≤ c.toNat
  · rw [decide_eq_true h, decide_eq_true (by omega)]
  · rw [decide_eq_false h, decide_eq_false (by omega)]
theorem str_test (x : List UInt8) (s : ByteArray) : (x == s.toList) = decide (x = s.data.toList) := by
  rw [ByteArray.toList_eq]
  by_cases h : x = s.data.toList
  · rw [decide_eq_true h, beq_iff_eq.2 h]
  · rw [decide_eq_false h, beq_eq_false_iff_ne.2 h]
theorem empty_test (s : ByteArray) : s.toList.isEmpty = decide (s.size = 0) := by
  rw [ByteArray.toList_eq]
  have : s.data.toList.length = s.size := by rw [Array.length_toList]; rfl
  cases h : s.data.toList with
  | nil => rw [h] at this; rw [decide_eq_true (by simpa using this.symm)]; rfl
  | cons c r => rw [h] at this; rw [decide_eq_false (by simp at this; omega)]; rfl
theorem bytes_of (s : ByteArray) : s.data.toList.length = s.size := by rw [Array.length_toList]; rfl
theorem byte_get (s : ByteArray) (k : Nat) (h : k < s.size) : s.data.toList[k]? = some s[k] := by
  rw [List.getElem?_eq_getElem (by rw [bytes_of]; exact h)]; rfl
theorem byte_cons (s : ByteArray) (h : 0 < s.size) : ∃ r, s.data.toList = s[0] :: r := by
  have := byte_get s 0 h
  cases hq : s.data.toList with
  | nil => rw [hq] at this; cases this
  | cons c r => rw [hq] at this; exact ⟨r, by rw [← Option.some.inj this]⟩
theorem extract_two (s : ByteArray) (k : Nat) (h : k + 1 < s.size) : (s.extract k (k + 2)).toList = [s[k], s[k + 1]] := by
  have h2 : k < s.data.toList.length := by rw [bytes_of]; omega
  rw [ByteArray.toList_eq, ByteArray.data_extract, Array.toList_extract, List.extract_eq_take_drop]
  rw [byte_drop s k (by omega), byte_drop s (k + 1) h, show k + 2 - k = 0 + 1 + 1 by omega, List.take_succ_cons, List.take_succ_cons, List.take_zero]
theorem w64 (n : Int) (h0 : -9223372036854775808 ≤ n) (h1 : n ≤ 9223372036854775807) : wrap64 n = n := by unfold wrap64; omega
/-- A token as the model has it. -/
def tokV (t : T0) (p q : Value) : Value := .agg #[.int .u8 t.k, p, q, .string ⟨t.x.toArray⟩, .int .i64 t.n]
theorem store_cx {P : Program} (w : World) (a : Addr) (k : FloatKind) (x y : Nat) (m : Mode) : (store a (.complex k x y) m).run P w = stored P w a (.complex k x y) m := run_store P w a _ m rfl
theorem byte_no (c : UInt8) (k : Nat) (h : c ≠ UInt8.ofNat k) (hk : k < 256 := by omega) : ((c.toNat : Int) == (k : Int)) = false := by
  rw [beq_eq_false_iff_ne]
  intro e
  apply h
  apply UInt8.toNat_inj.1
  rw [UInt8.toNat_ofNat']; omega
theorem extract_take' (s : ByteArray) (k : Nat) (h : k ≤ s.size) : (s.extract 0 k).data.toList = s.data.toList.take k := by
  rw [ByteArray.data_extract, Array.toList_extract, List.extract_eq_take_drop]; simp
theorem byte_same (c b : UInt8) : ((c.toNat : Int) == (b.toNat : Int)) = decide (c = b) := by
  by_cases h : c = b
  · subst h; rw [decide_eq_true rfl]; simp
  · rw [decide_eq_false h, beq_eq_false_iff_ne]
    intro e; apply h; apply UInt8.toNat_inj.1; omega
def tok0 (o : Option T0) : T0 := o.getD ⟨0, [], 0⟩
/-- What One says, as the model has it. -/
def oneV (r : Option T0 × Nat × Int) : Value := .tuple #[tokV (tok0 r.1) (.complex .f64 0 0) (.complex .f64 0 0), .int .i64 r.2.1, .int .i64 r.2.2]
theorem str_of (s : ByteArray) (x : List UInt8) (h : s.data.toList = x) : s = ⟨x.toArray⟩ := by
  apply ByteArray.ext; rw [← h]
theorem size_of_lit (a : List UInt8) : (⟨a.toArray⟩ : ByteArray).size = a.length := by
  show a.toArray.size = _
  simp
end Go.Proofs.YtggembknccbpnaaGreat
