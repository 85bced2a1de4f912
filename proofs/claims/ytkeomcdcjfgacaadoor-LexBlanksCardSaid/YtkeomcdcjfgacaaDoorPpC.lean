/- Package place, walked: Line, Column, Behind, Before; how places are compared. -/
import Derived.Test.YtkeomcdcjfgacaaDoorPpB
namespace Go.Proofs.YtkeomcdcjfgacaaDoor
open Go.RowKit
set_option maxHeartbeats 400000
set_option maxRecDepth 100000
set_option linter.unusedVariables false

/-- Are two places the same, or both none? -/
def pEq (l c m d : Int) : Bool := (isP l c == isP m d) && (!isP l c || (l == m && c == d))
/-- Does (l, c) stand ahead of (m, d)? -/
def pBef (l c m d : Int) : Bool := isP l c && isP m d && (decide (l < m) || decide (l = m) && decide (c < d))
theorem ord_int (m n : Int) (h0 : 0 ≤ m) (h1 : m ≤ 1073741824) (g0 : 0 ≤ n) (g1 : n ≤ 1073741824) : FloatKind.f64.format.order (floatOfInt .f64 m) (floatOfInt .f64 n) = some (compare m.toNat n.toNat) := by
  rw [fl_nat m h0 (by omega), fl_nat n g0 (by omega)]
  exact order_fl _ _ (by omega) (by omega)
theorem ord_eq (m n : Int) (h0 : 0 ≤ m) (h1 : m ≤ 1073741824) (g0 : 0 ≤ n) (g1 : n ≤ 1073741824) : (FloatKind.f64.format.order (floatOfInt .f64 m) (floatOfInt .f64 n) == some .eq) = (m == n) := by
  rw [ord_int m n h0 h1 g0 g1]
  by_cases h : m = n
  · subst h; rw [Nat.compare_eq_eq.2 rfl]; simp
  · have : (m == n) = false := beq_eq_false_iff_ne.2 h
    rw [this]
    rcases Nat.lt_or_gt_of_ne (show m.toNat ≠ n.toNat by omega) with k | k
    · rw [Nat.compare_eq_lt.2 k]; rfl
    · rw [Nat.compare_eq_gt.2 k]; rfl
theorem ord_lt (m n : Int) (h0 : 0 ≤ m) (h1 : m ≤ 1073741824) (g0 : 0 ≤ n) (g1 : n ≤ 1073741824) : (FloatKind.f64.format.order (floatOfInt .f64 m) (floatOfInt .f64 n) == some .lt) = decide (m < n) := by
  rw [ord_int m n h0 h1 g0 g1]
  rcases Nat.lt_trichotomy m.toNat n.toNat with k | k | k
  · rw [Nat.compare_eq_lt.2 k, decide_eq_true (by omega)]; rfl
  · rw [Nat.compare_eq_eq.2 k, decide_eq_false (by omega)]; rfl
  · rw [Nat.compare_eq_gt.2 k, decide_eq_false (by omega)]; rfl
/-- == of two places. -/
theorem eql_pos {P : Program} (l c m d : Int) (t : TypeId) (w : World) : (binOp .eql t (posV l c) (posV m d)).run P w = .ok (.bool (pEq l c m d)) w := by
  obtain ⟨l', c', a1, a2, a3, a4, a5, _, a7⟩ := posV_as l c
  obtain ⟨m', d', b1, b2, b3, b4, b5, _, b7⟩ := posV_as m d
  rw [a5, b5, run_eql_complex, ord_eq l' m' a1 a2 b1 b2, ord_eq c' d' a3 a4 b3 b4]
  congr 2
  unfold pEq
  rcases a7 with ⟨ha, rfl, rfl⟩ | ⟨ha, rfl, rfl⟩
  · rcases b7 with ⟨hb, rfl, rfl⟩ | ⟨hb, rfl, rfl⟩
    · rw [ha, hb]; rfl
    · rw [ha, hb]
      have := (isP_iff _ _).1 ha
      simp; omega
  · rcases b7 with ⟨hb, rfl, rfl⟩ | ⟨hb, rfl, rfl⟩
    · rw [ha, hb]
      have := (isP_iff _ _).1 hb
      simp; omega
    · rw [ha, hb]; rfl
theorem eql_none {P : Program} (l c : Int) (t : TypeId) (w : World) : (binOp .eql t (posV l c) (.complex .f64 0 0)).run P w = .ok (.bool (!isP l c)) w := by
  have := eql_pos (P := P) l c 0 0 t w
  rw [posV_none 0 0 isP_zero] at this
  rw [this]
  unfold pEq
  rw [isP_zero]
  cases isP l c <;> simp
theorem neq_none {P : Program} (l c : Int) (t : TypeId) (w : World) : (binOp .neq t (posV l c) (.complex .f64 0 0)).run P w = .ok (.bool (isP l c)) w := by
  have h := eql_none (P := P) l c t w
  obtain ⟨l', c', a1, a2, a3, a4, a5, _, a7⟩ := posV_as l c
  rw [a5] at h ⊢
  rw [run_eql_complex] at h
  rw [run_neq_complex]
  injection h with h1 _
  injection h1 with h2
  rw [h2, Bool.not_not]
/-- A place is a complex number. -/
theorem posV_cx (l c : Int) : ∃ x y, posV l c = .complex .f64 x y := ⟨_, _, rfl⟩
/-- The line of a place; 0: it is none. -/
def lnOf (l c : Int) : Int := if isP l c then l else 0
def coOf (l c : Int) : Int := if isP l c then c else 0
theorem Before_any (l c m d : Int) (w : World) :
    Calls Tryd.prog 14 #[posV l c, posV m d] w fun e w' => e = .returned (.bool (pBef l c m d)) ∧ w' = w := by
  have HA := sure_pos l c
  have HB := sure_pos m d
  have qa := fun t w => eql_none (P := Tryd.prog) l c t w
  have qb := fun t w => eql_none (P := Tryd.prog) m d t w
  unfold pBef
  cases ha : isP l c
  · rw [ha] at qa
    obtain ⟨x, y, e1⟩ := posV_cx l c
    obtain ⟨x2, y2, e2⟩ := posV_cx m d
    rw [e1] at HA qa ⊢
    rw [e2] at HB qb ⊢
    clear e1 e2 qb HB
    go_enter Tryd.func14, Tryd.ntmps14
    go_wp2_with fail
    refine (HA _).mono ?_
    rintro e w1 ⟨rfl, rfl⟩
    go_wp2_with fail
    go_ret
    exact ⟨rfl, rfl⟩
  · rw [ha] at qa
    cases hb : isP m d
    · rw [hb] at qb
      obtain ⟨x, y, e1⟩ := posV_cx l c
      obtain ⟨x2, y2, e2⟩ := posV_cx m d
      rw [e1] at HA qa ⊢
      rw [e2] at HB qb ⊢
      clear e1 e2
      go_enter Tryd.func14, Tryd.ntmps14
      go_wp2_with fail
      refine (HA _).mono ?_
      rintro e w1 ⟨rfl, rfl⟩
      go_wp2_with fail
      refine (HB _).mono ?_
      rintro e w1 ⟨rfl, rfl⟩
      go_wp2_with fail
      go_ret
      exact ⟨rfl, rfl⟩
    · rw [hb] at qb
      obtain ⟨a1, a2, a3, a4⟩ := (isP_iff l c).1 ha
      obtain ⟨b1, b2, b3, b4⟩ := (isP_iff m d).1 hb
      have o1 := ord_lt l m (by omega) a2 (by omega) b2
      have o2 := ord_eq l m (by omega) a2 (by omega) b2
      have o3 := ord_lt c d (by omega) a4 (by omega) b4
      rw [posV_ok l c ha] at HA qa ⊢
      rw [posV_ok m d hb] at HB qb ⊢
      generalize floatOfInt .f64 l = x at *
      generalize floatOfInt .f64 c = y at *
      generalize floatOfInt .f64 m = x2 at *
      generalize floatOfInt .f64 d = y2 at *
      by_cases h1 : l < m
      · rw [decide_eq_true h1] at o1 ⊢
        clear o2 o3
        go_enter Tryd.func14, Tryd.ntmps14
        go_wp2_with fail
        refine (HA _).mono ?_
        rintro e w1 ⟨rfl, rfl⟩
        go_wp2_with fail
        refine (HB _).mono ?_
        rintro e w1 ⟨rfl, rfl⟩
        go_wp2_with fail
        go_ret
        exact ⟨rfl, rfl⟩
      · rw [decide_eq_false h1] at o1 ⊢
        by_cases h2 : l = m
        · rw [show (l == m) = true from beq_iff_eq.2 h2] at o2
          rw [decide_eq_true h2]
          clear h1 h2
          generalize decide (c < d) = r at o3 ⊢
          go_enter Tryd.func14, Tryd.ntmps14
          go_wp2_with fail
          refine (HA _).mono ?_
          rintro e w1 ⟨rfl, rfl⟩
          go_wp2_with fail
          refine (HB _).mono ?_
          rintro e w1 ⟨rfl, rfl⟩
          go_wp2_with fail
          go_ret
          exact ⟨by simp, rfl⟩
        · rw [show (l == m) = false from beq_eq_false_iff_ne.2 h2] at o2
          rw [decide_eq_false h2]
          clear h1 h2 o3
          generalize decide (c < d) = r
          go_enter Tryd.func14, Tryd.ntmps14
          go_wp2_with fail
          refine (HA _).mono ?_
          rintro e w1 ⟨rfl, rfl⟩
          go_wp2_with fail
          refine (HB _).mono ?_
          rintro e w1 ⟨rfl, rfl⟩
          go_wp2_with fail
          go_ret
          exact ⟨by simp, rfl⟩
end Go.Proofs.YtkeomcdcjfgacaaDoor
