/- The document's answer of layer 6, by plain functions: operators by their texts; NOT, once more. No program stands in here. -/
import Derived.Test.YtldecbaaajmmcaaMeH
namespace Go.Proofs.Ytldecbaaajmmcaa
open Go.RowKit
set_option maxHeartbeats 1000000
set_option maxRecDepth 100000
set_option linter.unusedVariables false
set_option linter.unusedSimpArgs false

/-- Is a token one of these operators, by its text? -/
def isB (l : List (List UInt8)) (t : TK) : Bool := (t.1.k == 5 || t.1.k == 6) && l.contains t.1.x
/-- A token that came of scanning, or the end. -/
def tokG (t : TK) : Prop := tokOk t.1 ∨ t = zTK
def opsOk (l : List (List UInt8)) (tb : List (List UInt8 × Nat)) : Bool :=
  (symsP.all fun x => l.contains x == (tb.lookup x == some 5)) && (resv.all fun x => l.contains x == (tb.lookup x == some 6)) && (tb.all fun p => p.2 == 5 || p.2 == 6)
theorem lookup_two (x : List UInt8) (k : Nat) : ∀ tb : List (List UInt8 × Nat), (tb.all fun p => p.2 == 5 || p.2 == 6) = true → tb.lookup x = some k → k = 5 ∨ k = 6
  | [], _, h => by simp at h
  | (y, n) :: r, ha, h => by
    simp only [List.all_cons, Bool.and_eq_true, Bool.or_eq_true, beq_iff_eq] at ha
    rw [List.lookup_cons] at h
    split at h
    · injection h with h
      omega
    · exact lookup_two x k r ha.2 h
theorem isB_O {l : List (List UInt8)} {tb : List (List UInt8 × Nat)} (h : opsOk l tb = true) {t : TK} (ht : tokG t) : isB l t = isO tb t := by
  unfold opsOk at h
  simp only [Bool.and_eq_true] at h
  obtain ⟨⟨h1, h2⟩, h3⟩ := h
  have hoth : t.1.k ≠ 5 → t.1.k ≠ 6 → isB l t = isO tb t := fun a b => by
    unfold isB isO
    rw [beq_eq_false_iff_ne.2 a, beq_eq_false_iff_ne.2 b]
    simp only [Bool.or_self, Bool.false_and]
    refine (beq_eq_false_iff_ne.2 fun e => ?_).symm
    rcases lookup_two _ _ tb h3 e with e | e
    · exact a e
    · exact b e
  rcases ht with ht | rfl
  · rcases ht with ⟨k, _⟩ | ⟨k, hw, _⟩ | ⟨k, _⟩ | ⟨k, _⟩ | ⟨k, _⟩ | ⟨k, _, hs⟩
    · exact hoth (by omega) (by omega)
    · unfold isB isO
      rw [k]
      have := List.all_eq_true.1 h2 t.1.x (by unfold wordB at hw; exact List.contains_iff_mem.1 hw)
      simp only [beq_iff_eq] at this
      rw [this]
      rfl
    · exact hoth (by omega) (by omega)
    · exact hoth (by omega) (by omega)
    · exact hoth (by omega) (by omega)
    · unfold isB isO
      rw [k]
      have := List.all_eq_true.1 h1 t.1.x (List.contains_iff_mem.1 hs)
      simp only [beq_iff_eq] at this
      rw [this]
      rfl
  · exact hoth (by decide) (by decide)
def mulL : List (List UInt8) := [[42], [47], [68, 73, 86], [77, 79, 68], [65, 78, 68]]
def signL : List (List UInt8) := [[43], [45]]
def sumL : List (List UInt8) := [[43], [45], [79, 82]]
def relL : List (List UInt8) := [[61], [35], [60], [60, 61], [62], [62, 61], [73, 78]]
theorem mul_ok : opsOk mulL mulT = true := by decide +kernel
theorem sign_ok : opsOk signL signT = true := by decide +kernel
theorem sum_ok : opsOk sumL sumT = true := by decide +kernel
theorem rel_ok : opsOk relL relT = true := by decide +kernel
/-- A row whose tokens came of scanning. -/
def Scd (ts : List TK) : Prop := ∀ i, tokG (tk ts i)
theorem row_scd (S : List UInt8) : Scd (rowT S) := fun i => by
  rcases Nat.lt_or_ge i (rowT S).length with h | h
  · have hm := List.mem_of_getElem? (tk_lt h)
    left
    unfold rowT at hm
    split at hm
    · obtain ⟨y, hy, e⟩ := List.mem_map.1 hm
      rw [show tk (rowT S) i = plOf S y from by unfold rowT; rename_i hz; rw [if_pos hz]; exact e.symm]
      exact (scan_ok _ S 0 (Nat.le_refl _)).1 y hy
    · simp at hm
  · exact .inr (tk_ge h)
theorem isNot (t : TK) : isO notT t = (t.1.k == 6 && t.1.x == [78, 79, 84]) := by
  unfold isO notT
  rw [List.lookup_cons]
  cases hx : (t.1.x == [78, 79, 84])
  · simp
  · simp only [Bool.and_true]
    by_cases hk : t.1.k = 6
    · rw [hk]; rfl
    · rw [beq_eq_false_iff_ne.2 hk, beq_eq_false_iff_ne.2]
      intro e; injection e with e; exact hk e.symm
section
variable (ts : List TK)
theorem ops_none {tb : List (List UInt8 × Nat)} {i : Nat} (h : isO tb (tk ts i) = false) : ∀ m, opsM ts tb m i = 0
  | 0 => rfl
  | m + 1 => by unfold opsM; rw [h]; rfl
theorem ops_clock {tb : List (List UInt8 × Nat)} (hz : tb.lookup [] = none) : ∀ m m' i, ts.length ≤ m + i → ts.length ≤ m' + i → opsM ts tb m i = opsM ts tb m' i
  | 0, m', i, h, _ => by
    have : isO tb (tk ts i) = false := by
      cases e : isO tb (tk ts i) with
      | false => rfl
      | true => have := isO_lt hz e; omega
    rw [ops_none ts this, ops_none ts this]
  | m + 1, 0, i, _, h => by
    have : isO tb (tk ts i) = false := by
      cases e : isO tb (tk ts i) with
      | false => rfl
      | true => have := isO_lt hz e; omega
    rw [ops_none ts this, ops_none ts this]
  | m + 1, m' + 1, i, h, h' => by
    unfold opsM
    rw [ops_clock hz m m' (i + 1) (by omega) (by omega)]
theorem wrap_first (i : Nat) : ∀ (n : Nat) (x : DT), wrapM ts i (n + 1) x = .node (nd 12 (tk ts i) (tk ts i).1.x 0) [wrapM ts (i + 1) n x]
  | 0, x => rfl
  | n + 1, x => by
    have h := wrap_first i n (.node (nd 12 (tk ts (i + (n + 1))) (tk ts (i + (n + 1))).1.x 0) [x])
    have e : i + (n + 1) = i + 1 + n := by omega
    show wrapM ts i (n + 1) _ = _
    rw [h, e]
    rfl
variable (E : Nat → Re)
theorem fac_none {i : Nat} (h : isO notT (tk ts i) = false) : facM ts E i = operM ts E i := by
  unfold facM aheadM
  rw [ops_none ts h]
  show (match operM ts E (i + 0) with | .ok x j => Re.ok x j | .bad j => .bad j | .out => .out) = _
  rw [Nat.add_zero]
  cases operM ts E i <;> rfl
theorem fac_not {i : Nat} (h : isO notT (tk ts i) = true) : facM ts E i = (match facM ts E (i + 1) with | .ok x j => .ok (.node (nd 12 (tk ts i) (tk ts i).1.x 0) [x]) j | .bad j => .bad j | .out => .out) := by
  have e : opsM ts notT (ts.length + 1) i = opsM ts notT (ts.length + 1) (i + 1) + 1 := by
    rw [show opsM ts notT (ts.length + 1) i = opsM ts notT ts.length (i + 1) + 1 from by
      show (if isO notT (tk ts i) = true then _ else _) = _
      rw [if_pos h]]
    rw [ops_clock ts rfl ts.length (ts.length + 1) (i + 1) (by omega) (by omega)]
  unfold facM aheadM
  simp only [if_true, e]
  generalize opsM ts notT (ts.length + 1) (i + 1) = k
  rw [show i + (k + 1) = i + 1 + k from by omega]
  cases operM ts E (i + 1 + k) with
  | ok x j => simp only [wrap_first]
  | bad j => rfl
  | out => rfl
end
end Go.Proofs.Ytldecbaaajmmcaa
