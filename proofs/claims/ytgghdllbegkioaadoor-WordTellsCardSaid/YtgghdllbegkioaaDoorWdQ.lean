/- The texts of words: plain facts on numerals. -/
import Derived.Test.YtgghdllbegkioaaDoorWdP
import Derived.Lib.ItoaNum
namespace Go.Proofs.YtgghdllbegkioaaDoor
set_option linter.unusedVariables false

/-- The number whose digits these are. -/
def dval (l : List UInt8) : Nat := l.foldl (fun acc c => 10 * acc + (c.toNat - 48)) 0
theorem dval_snoc (l : List UInt8) (c : UInt8) : dval (l ++ [c]) = 10 * dval l + (c.toNat - 48) := by
  unfold dval; rw [List.foldl_append]; rfl
theorem dig_toNat (d : Nat) (h : d < 10) : (UInt8.ofNat (48 + d)).toNat = 48 + d := by
  rw [UInt8.toNat_ofNat']; omega
theorem dec_all (u : Nat) : dval (Lib.decDigits u) = u ∧ (∀ c ∈ Lib.decDigits u, 48 ≤ c.toNat ∧ c.toNat ≤ 57) ∧ Lib.decDigits u ≠ [] := by
  induction u using Nat.strongRecOn with
  | _ u ih =>
    by_cases h : u < 10
    · rw [Lib.decDigits, dif_pos h]
      refine ⟨?_, ?_, by simp⟩
      · show 10 * 0 + ((UInt8.ofNat (48 + u)).toNat - 48) = u
        rw [dig_toNat u h]; omega
      · intro c hc
        simp only [List.mem_singleton] at hc
        subst hc
        rw [dig_toNat u h]; omega
    · rw [Lib.decDigits, dif_neg h]
      obtain ⟨h1, h2, h3⟩ := ih (u / 10) (by omega)
      have hm : u % 10 < 10 := Nat.mod_lt _ (by omega)
      refine ⟨?_, ?_, by simp⟩
      · rw [dval_snoc, h1, dig_toNat _ hm]; omega
      · intro c hc
        rw [List.mem_append] at hc
        rcases hc with hc | hc
        · exact h2 c hc
        · simp only [List.mem_singleton] at hc
          subst hc
          rw [dig_toNat _ hm]; omega
theorem dec_len (n u : Nat) (h : u < 10 ^ (n + 1)) : (Lib.decDigits u).length ≤ n + 1 := by
  induction n generalizing u with
  | zero => rw [Lib.decDigits, dif_pos (by simpa using h)]; simp
  | succ n ih =>
    by_cases h2 : u < 10
    · rw [Lib.decDigits, dif_pos h2]; simp
    · rw [Lib.decDigits, dif_neg h2]
      have := ih (u / 10) (by rw [Nat.pow_succ] at h; omega)
      simp only [List.length_append, List.length_singleton]
      omega
theorem dval_lt (l : List UInt8) (h : ∀ c ∈ l, 48 ≤ c.toNat ∧ c.toNat ≤ 57) : dval l < 10 ^ l.length := by
  suffices ∀ (r : List UInt8) (a : Nat), (∀ c ∈ r, 48 ≤ c.toNat ∧ c.toNat ≤ 57) → r.foldl (fun acc c => 10 * acc + (c.toNat - 48)) a < (a + 1) * 10 ^ r.length by
    simpa [dval] using this l 0 h
  intro r
  induction r with
  | nil => intro a _; simp
  | cons c r ih =>
    intro a hr
    have h1 := ih (10 * a + (c.toNat - 48)) (fun d hd => hr d (List.mem_cons_of_mem _ hd))
    have h2 := hr c List.mem_cons_self
    simp only [List.foldl_cons, List.length_cons, Nat.pow_succ]
    have h3 : (10 * a + (c.toNat - 48) + 1) * 10 ^ r.length ≤ (a + 1) * (10 ^ r.length * 10) := by
      rw [Nat.mul_comm (10 ^ r.length) 10, ← Nat.mul_assoc]
      exact Nat.mul_le_mul_right _ (by omega)
    omega
/-- The sign ahead is let go. -/
def body (l : List UInt8) : List UInt8 := match l with | c :: r => if c = 45 then r else c :: r | [] => []
theorem itoa_neg' (v : Int) (h : v < 0) : Lib.itoa v = 45 :: Lib.decDigits v.natAbs := by unfold Lib.itoa; rw [if_pos h]
theorem itoa_pos' (v : Int) (h : 0 ≤ v) : Lib.itoa v = Lib.decDigits v.toNat := by unfold Lib.itoa; rw [if_neg (by omega)]
theorem dec_head (u : Nat) : (Lib.decDigits u).head? ≠ some 45 := by
  obtain ⟨_, h, _⟩ := dec_all u
  intro e
  have hm : (45 : UInt8) ∈ Lib.decDigits u := List.mem_of_mem_head? e
  have := (h 45 hm).1
  simp at this
theorem itoa_inj (v w : Int) (h : Lib.itoa v = Lib.itoa w) : v = w := by
  by_cases hv : v < 0 <;> by_cases hw : w < 0
  · rw [itoa_neg' v hv, itoa_neg' w hw, List.cons.injEq] at h
    have := congrArg dval h.2
    rw [(dec_all _).1, (dec_all _).1] at this
    omega
  · rw [itoa_neg' v hv, itoa_pos' w (by omega)] at h
    exact absurd (by rw [← h]; rfl) (dec_head w.toNat)
  · rw [itoa_neg' w hw, itoa_pos' v (by omega)] at h
    exact absurd (by rw [h]; rfl) (dec_head v.toNat)
  · rw [itoa_pos' v (by omega), itoa_pos' w (by omega)] at h
    have := congrArg dval h
    rw [(dec_all _).1, (dec_all _).1] at this
    omega
end Go.Proofs.YtgghdllbegkioaaDoor
