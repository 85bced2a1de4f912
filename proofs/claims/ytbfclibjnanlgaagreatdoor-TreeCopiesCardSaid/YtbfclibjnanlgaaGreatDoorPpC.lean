/- Package place, walked: Line, Column, Behind, Before; how places are compared. -/
import Derived.Test.YtbfclibjnanlgaaGreatDoorPpB
namespace Go.Proofs.YtbfclibjnanlgaaGreatDoor
open Go.RowKit
set_option maxHeartbeats 400000
set_option maxRecDepth 100000
set_option linter.unusedVariables false

/-- Are two places the same, or both none? -/
def pEq (l c m d : Int) : Bool := (isP l c == isP m d) && (!isP l c || (l == m && c == d))
/-- Does (l, c) stand ahead of (m, d)? -/
def pBef (l c m d : Int) : Bool := isP l c && isP m d && (decide (l < m) || decide (l = m) && decide (c < d))
theorem ord_int (m n : Int) (h0 : 0 ≤ m) (h1 : m ≤ 1073741824) (g0 : 0 ≤ n) (g1 : n ≤ 1073741824) : FloatKind.f64.format.order (floatOfInt .f64 m) (floatOfInt .f64 n) = some (compare m.toNat n.toNat) := by
  rw [fl_nat m h0 (by omega), fl_nat n g0 (by omega)]
  exact order_fl _ _ (by omega) (by omega)
theorem ord_eq (m n : Int) (h0 : 0 ≤ m) (h1 : m ≤ 1073741824) (g0 : 0 ≤ n) (g1 : n ≤ 1073741824) : (FloatKind.f64.format.order (floatOfInt .f64 m) (floatOfInt .f64 n) == some .eq) = (m == n) := by
  rw [ord_int m n h0 h1 g0 g1]
  by_cases h : m = n
  · subst h; rw [Nat.compare_eq_eq.2 rfl]; simp
  · have : (m == n) = false := beq_eq_false_iff_ne.2 h
    rw [this]
    rcases Nat.lt_or_gt_of_ne (show m.toNat ≠ n.toNat by omega) with k | k
    · rw [Nat.compare_eq_lt.2 k]; rfl
    · rw [Nat.compare_eq_gt.2 k]; rfl
theorem ord_lt (m n : Int) (h0 : 0 ≤ m) (h1 : m ≤ 1073741824) (g0 : 0 ≤ n) (g1 : n ≤ 1073741824) : (FloatKind.f64.format.order (floatOfInt .f64 m) (floatOfInt .f64 n) == some .lt) = decide (m < n) := by
  rw [ord_int m n h0 h1 g0 g1]
  rcases Nat.lt_trichotomy m.toNat n.toNat with k | k | k
  · rw [Nat.compare_eq_lt.2 k, decide_eq_true (by omega)]; rfl
  · rw [Nat.compare_eq_eq.2 k, decide_eq_false (by omega)]; rfl
  · rw [Nat.compare_eq_gt.2 k, decide_eq_false (by omega)]; rfl
/-- == of two places. -/
theorem eql_pos {P : Program} (l c m d : Int) (t : TypeId) (w : World) : (binOp .eql t (posV l c) (posV m d)).run P w = .ok (.bool (pEq l c m d)) w := by
  obtain ⟨l', c', a1, a2, a3, a4, a5, _, a7⟩ := posV_as l c
  obtain ⟨m', d', b1, b2, b3, b4, b5, _, b7⟩ := posV_as m d
  rw [a5, b5, run_eql_complex, ord_eq l' m' a1 a2 b1 b2, ord_eq c' d' a3 a4 b3 b4]
  congr 2
  unfold pEq
  rcases a7 with ⟨ha, rfl, rfl⟩ | ⟨ha, rfl, rfl⟩
  · rcases b7 with ⟨hb, rfl, rfl⟩ | ⟨hb, rfl, rfl⟩
    · rw [ha, hb]; rfl
    · rw [ha, hb]
      have := (isP_iff _ _).1 ha
      simp; omega
  · rcases b7 with ⟨hb, rfl, rfl⟩ | ⟨hb, rfl, rfl⟩
    · rw [ha, hb]
      have := (isP_iff _ _).1 hb
      simp; omega
    · rw [ha, hb]; rfl
theorem eql_none {P : Program} (l c : Int) (t : TypeId) (w : World) : (binOp .eql t (posV l c) (.complex .f64 0 0)).run P w = .ok (.bool (!isP l c)) w := by
  have := eql_pos (P := P) l c 0 0 t w
  rw [posV_none 0 0 isP_zero] at this
  rw [this]
  unfold pEq
  rw [isP_zero]
  cases isP l c <;> simp
theorem neq_none {P : Program} (l c : Int) (t : TypeId) (w : World) : (binOp .neq t (posV l c) (.complex .f64 0 0)).run P w = .ok (.bool (isP l c)) w := by
  have h := eql_none (P := P) l c t w
  obtain ⟨l', c', a1, a2, a3, a4, a5, _, a7⟩ := posV_as l c
  rw [a5] at h ⊢
  rw [run_eql_complex] at h
  rw [run_neq_complex]
  injection h with h1 _
  injection h1 with h2
  rw [h2, Bool.not_not]
/-- A place is a complex number. -/
theorem posV_cx (l c : Int) : ∃ x y, posV l c = .complex .f64 x y := ⟨_, _, rfl⟩
/-- The line of a place; 0: it is none. -/
def lnOf (l c : Int) : Int := if isP l c then l else 0
def coOf (l c : Int) : Int := if isP l c then c else 0
end Go.Proofs.YtbfclibjnanlgaaGreatDoor
