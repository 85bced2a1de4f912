/- Worlds, bytes of a string, places: what every walk leans on. -/
import Derived.Test.YtggembknccbpnaaGreatProg
import Derived.Test.YtggembknccbpnaaGreatPlS
import Derived.WalkKit
import Derived.WalkLawsBesides
import Derived.Deep.QuietTactic
import Derived.BigQuiet
import Derived.Lib.Hide
namespace Go.Proofs.YtggembknccbpnaaGreat
open Go.RowKit
set_option maxHeartbeats 1000000
set_option maxRecDepth 100000
set_option linter.unusedVariables false

theorem bt {a b c : World} (h1 : Below a.heap.size a b) (h2 : Below b.heap.size b c) : Below a.heap.size a c := h1.trans (h2.mono h1.size)
theorem below_new (w : World) (o : Obj) : Below w.heap.size w (w.alloc o) := (Below.refl _ _).alloc (Nat.le_refl _) o
theorem posV_ok (l c : Int) (h : isP l c = true) : posV l c = .complex .f64 (floatOfInt .f64 l) (floatOfInt .f64 c) := by
  obtain ⟨h1, h2, h3, h4⟩ := (isP_iff l c).1 h
  unfold posV fpart
  rw [h, if_pos rfl, if_pos rfl, ← fl_of_int _ (by omega), ← fl_of_int _ (by omega), Int.toNat_of_nonneg (by omega), Int.toNat_of_nonneg (by omega)]
theorem posV_none (l c : Int) (h : isP l c = false) : posV l c = .complex .f64 0 0 := by
  unfold posV fpart; rw [h]; rfl
theorem byte_drop (s : ByteArray) (k : Nat) (h : k < s.size) : s.data.toList.drop k = s[k] :: s.data.toList.drop (k + 1) := by
  have h2 : k < s.data.toList.length := by rw [Array.length_toList]; exact h
  rw [List.drop_eq_getElem_cons h2]
  congr 1
theorem byte_ten (b : UInt8) : ((b.toNat : Int) == 10) = decide (b = 10) := by
  by_cases h : b = 10
  · subst h; decide
  · have : ¬ ((b.toNat : Int) = 10) := fun e => h (by apply UInt8.toNat_inj.1; show b.toNat = 10; omega)
    rw [decide_eq_false h, beq_eq_false_iff_ne.2 this]
theorem size_set (w : World) (a : Addr) (v : Value) : (w.setCell a v).heap.size = w.heap.size := by simp
/-- r is how many bytes of s stand ahead of (l, c), the first time; -1: it is nowhere. -/
def InIs (s : List UInt8) (l c r : Int) : Prop :=
  (∃ i : Nat, i ≤ s.length ∧ r = (i : Int) ∧ goB 1 1 (s.take i) = (l, c) ∧ ∀ j, j < i → goB 1 1 (s.take j) ≠ (l, c)) ∨ (r = -1 ∧ ∀ j, j ≤ s.length → goB 1 1 (s.take j) ≠ (l, c))
theorem wrap_i64 (n : Int) (h0 : -9223372036854775808 ≤ n) (h1 : n ≤ 9223372036854775807) : IntKind.i64.wrap n = n := by
  simp [IntKind.wrap, IntKind.bits, IntKind.signed]; split <;> omega
theorem extract_one (s : ByteArray) (k : Nat) (h : k < s.size) : (s.extract k (k + 1)).data.toList = [s[k]] := by
  have h2 : k < s.data.toList.length := by rw [Array.length_toList]; exact h
  rw [ByteArray.data_extract, Array.toList_extract, List.extract_eq_take_drop]
  rw [byte_drop s k h, show k + 1 - k = 0 + 1 by omega, List.take_succ_cons, List.take_zero]
theorem take_next1 (s : ByteArray) (k : Nat) (h : k < s.size) : s.data.toList.take (k + 1) = s.data.toList.take k ++ (s.extract k (k + 1)).data.toList := by
  have h2 : k < s.data.toList.length := by rw [Array.length_toList]; exact h
  rw [extract_one s k h, List.take_succ_eq_append_getElem h2]
  congr 1
end Go.Proofs.YtggembknccbpnaaGreat
