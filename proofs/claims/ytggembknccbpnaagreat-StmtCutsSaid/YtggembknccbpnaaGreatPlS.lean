/- Places as pairs of numbers: plain facts. No program stands in here. -/
import Derived.Test.YtggembknccbpnaaGreatFlQ
namespace Go.Proofs.YtggembknccbpnaaGreat
open Go
set_option linter.unusedVariables false

/-- May a line and a column be? -/
def isP (l c : Int) : Bool := decide (1 ≤ l) && decide (l ≤ 1073741824) && decide (1 ≤ c) && decide (c ≤ 1073741824)
theorem isP_iff (l c : Int) : isP l c = true ↔ 1 ≤ l ∧ l ≤ 1073741824 ∧ 1 ≤ c ∧ c ≤ 1073741824 := by
  unfold isP; simp [and_assoc]
theorem isP_not (l c : Int) : isP l c = false ↔ ¬ (1 ≤ l ∧ l ≤ 1073741824 ∧ 1 ≤ c ∧ c ≤ 1073741824) := by
  rw [← isP_iff]; simp
/-- The part of a place as float64's bits. -/
def fpart (ok : Bool) (n : Int) : Nat := if ok then flN n.toNat else 0
/-- A place as the model has complex numbers; 0: none. -/
def posV (l c : Int) : Value := .complex .f64 (fpart (isP l c) l) (fpart (isP l c) c)
/-- The place behind one byte. -/
def stepL (l : Int) (b : UInt8) : Int := if b = 10 then l + 1 else l
def stepC (c : Int) (b : UInt8) : Int := if b = 10 then 1 else c + 1
/-- The place behind all bytes of a list, one by one; (0, 0): none. -/
def goB (l c : Int) : List UInt8 → Int × Int
  | [] => if isP l c then (l, c) else (0, 0)
  | b :: r => if isP l c then goB (stepL l b) (stepC c b) r else (0, 0)
theorem goB_nil (l c : Int) (h : isP l c = true) : goB l c [] = (l, c) := by unfold goB; rw [if_pos h]
theorem goB_none (l c : Int) (s : List UInt8) (h : isP l c = false) : goB l c s = (0, 0) := by
  cases s <;> (unfold goB; rw [h]; rfl)
theorem goB_cons (l c : Int) (b : UInt8) (r : List UInt8) (h : isP l c = true) : goB l c (b :: r) = goB (stepL l b) (stepC c b) r := by
  rw [goB, if_pos h]
theorem goB_is : ∀ (s : List UInt8) (l c : Int), goB l c s = (0, 0) ∨ isP (goB l c s).1 (goB l c s).2 = true
  | [], l, c => by
    by_cases h : isP l c = true
    · rw [goB_nil l c h]; exact .inr h
    · exact .inl (goB_none l c [] (by simpa using h))
  | b :: r, l, c => by
    by_cases h : isP l c = true
    · rw [goB_cons l c b r h]; exact goB_is r _ _
    · exact .inl (goB_none l c _ (by simpa using h))
theorem isP_zero : isP 0 0 = false := by decide
theorem goB_append : ∀ (s t : List UInt8) (l c : Int), goB l c (s ++ t) = goB (goB l c s).1 (goB l c s).2 t
  | [], t, l, c => by
    by_cases h : isP l c = true
    · rw [goB_nil l c h]; rfl
    · have h' : isP l c = false := by simpa using h
      rw [goB_none l c [] h', List.nil_append, goB_none l c t h', goB_none 0 0 t isP_zero]
  | b :: r, t, l, c => by
    by_cases h : isP l c = true
    · rw [goB_cons l c b r h, List.cons_append, goB_cons l c b (r ++ t) h]; exact goB_append r t _ _
    · have h' : isP l c = false := by simpa using h
      rw [goB_none l c (b :: r) h', goB_none l c _ h', goB_none 0 0 t isP_zero]
theorem posV_cx (l c : Int) : ∃ x y, posV l c = .complex .f64 x y := ⟨_, _, rfl⟩
end Go.Proofs.YtggembknccbpnaaGreat
