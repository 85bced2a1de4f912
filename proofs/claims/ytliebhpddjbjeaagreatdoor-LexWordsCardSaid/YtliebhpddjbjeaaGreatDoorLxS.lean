/- Layer 4 by plain functions: a step gives a token that is read back. No program stands in here. -/
import Derived.Test.YtliebhpddjbjeaaGreatDoorLxR
namespace Go.Proofs.YtliebhpddjbjeaaGreatDoor
open Go
set_option linter.unusedVariables false
set_option maxRecDepth 10000

theorem sym_back (t : T0) (hk : t.k = 5) (hn : t.n = 0) (hx : symsP.contains t.x = true) (rest : List UInt8) (hs : sepOk rest) : stp (t.x ++ rest) = (some t, t.x.length, 0) := by
  obtain ⟨k, x, n⟩ := t
  simp only at hk hn hx ⊢
  subst hk; subst hn
  have hm : x ∈ symsP := List.contains_iff_mem.1 hx
  clear hx
  unfold symsP at hm
  simp only [List.mem_cons, List.not_mem_nil, or_false] at hm
  rcases hm with rfl | rfl | rfl | rfl | rfl | rfl | rfl | rfl | rfl | rfl | rfl | rfl | rfl | rfl | rfl | rfl | rfl | rfl | rfl | rfl | rfl | rfl | rfl | rfl
  all_goals
    cases rest with
    | nil => (apply Eq.symm; kernel_rfl)
    | cons c r => rcases hs c rfl with rfl | rfl | rfl | rfl | rfl <;> (apply Eq.symm; kernel_rfl)
/-- A token that is written is read back, whatever blank stands behind it. -/
theorem resc (t : T0) (h : tokOk t) (rest : List UInt8) (hs : sepOk rest) : stp (txtT t ++ rest) = (some t, (txtT t).length, 0) := by
  unfold txtT
  rcases h with ⟨hk, h1, h2⟩ | ⟨hk, h1, h2⟩ | ⟨hk, h1, h2, h3⟩ | ⟨hk, h1, h2, h3⟩ | ⟨hk, h1, h2, h3⟩ | ⟨hk, h1, h2⟩
  · rw [if_neg (by omega), if_neg (by omega), if_neg (by omega)]; exact name_back t hk h1 h2 rest hs
  · rw [if_neg (by omega), if_neg (by omega), if_neg (by omega)]; exact word_back t hk h1 h2 rest hs
  · rw [if_pos hk]; exact num_back t hk h1 h2 h3 rest hs
  · rw [if_neg (by omega), if_pos hk]; exact char_back t hk h1 h2 h3 rest hs
  · rw [if_neg (by omega), if_neg (by omega), if_pos hk]; exact str_back t hk h1 h2 h3 rest
  · rw [if_neg (by omega), if_neg (by omega), if_neg (by omega)]; exact sym_back t hk h1 h2 rest hs
theorem hx_pos (b : UInt8) (h : isHx b = true) : 0 ≤ digV b := by
  unfold isHx isDg at h
  unfold digV
  simp at h
  split <;> omega
theorem pow_1610 (m : Nat) : 16 ^ m ≤ 10 ^ (2 * m) := by
  rw [Nat.pow_mul]
  exact Nat.pow_le_pow_left (by omega) m
theorem dec_fit (base : Nat) (hb : 1 ≤ base) (hb2 : base ≤ 16) (s : List UInt8) (hs : s ≠ []) (hd : ∀ b ∈ s, digV b < base) : (Lib.decDigits (vOf base 0 s)).length ≤ 2 * s.length := by
  have h1 := vOf_lt base hb s 0 1 hd (by omega)
  rw [Nat.one_mul] at h1
  have h2 : base ^ s.length ≤ 16 ^ s.length := Nat.pow_le_pow_left hb2 _
  have h3 := pow_1610 s.length
  have hl : 1 ≤ s.length := by
    cases s with
    | nil => exact absurd rfl hs
    | cons c r => simp
  have := dec_short10 (2 * s.length - 1) (vOf base 0 s) (by rw [show 2 * s.length - 1 + 1 = 2 * s.length by omega]; omega)
  omega
theorem oct_fit (s : List UInt8) (hs : s ≠ []) (hd : ∀ b ∈ s, digV b < 8) : (octD (vOf 8 0 s)).length ≤ s.length := by
  have h1 := vOf_lt 8 (by omega) s 0 1 hd (by omega)
  rw [Nat.one_mul] at h1
  have hl : 1 ≤ s.length := by
    cases s with
    | nil => exact absurd rfl hs
    | cons c r => simp
  have := oct_short8 (s.length - 1) (vOf 8 0 s) (by rw [show s.length - 1 + 1 = s.length by omega]; exact h1)
  omega
theorem valS_inv (base : Nat) (most : Int) (s : List UInt8) (n : Int) (h0 : ∀ b ∈ s, 0 ≤ digV b) (h : valS base most s = some n) : s ≠ [] ∧ (∀ b ∈ s, digV b < base) ∧ n = ((vOf base 0 s : Nat) : Int) ∧ n ≤ most := by
  unfold valS at h
  split at h
  · cases h
  · rename_i hne
    obtain ⟨a, b, c⟩ := valL_inv base most s 0 n h0 h
    exact ⟨hne, a, b, c⟩
/-- What a number's letters may be. -/
theorem num_inv (s : List UInt8) (t : T0) (h0 : ∀ b ∈ s, 0 ≤ digV b) (h : num s = some t) : tokOk t ∧ (txtT t).length ≤ 2 * s.length := by
  have hdl : s.dropLast.length ≤ s.length - 1 := by rw [List.length_dropLast]; omega
  have hd0 : ∀ b ∈ s.dropLast, 0 ≤ digV b := fun b hb => h0 b (List.dropLast_subset s hb)
  have two : ∀ (base : Nat) (v : List UInt8) (n : Int), 1 ≤ base → base ≤ 16 → v.length ≤ s.length → (∀ b ∈ v, 0 ≤ digV b) → valS base 65535 v = some n → t = ⟨2, [], n⟩ → tokOk t ∧ (txtT t).length ≤ 2 * s.length := by
    intro base v n hb1 hb2 hl hv hh ht
    obtain ⟨hne, a1, a2, a3⟩ := valS_inv base 65535 v n hv hh
    subst ht
    refine ⟨.inr (.inr (.inl ⟨rfl, rfl, by rw [a2]; exact Int.natCast_nonneg _, a3⟩)), ?_⟩
    show (Lib.decDigits n.toNat).length ≤ _
    have := dec_fit base hb1 hb2 v hne a1
    rw [a2, Int.toNat_natCast]; omega
  unfold num at h
  split at h
  · cases hh : valS 16 65535 s.dropLast with
    | none => rw [hh] at h; cases h
    | some n =>
      rw [hh] at h
      exact two 16 s.dropLast n (by omega) (by omega) (by omega) hd0 hh (by injection h with h; exact h.symm)
  · cases hh : valS 10 65535 s with
    | some n =>
      rw [hh] at h
      exact two 10 s n (by omega) (by omega) (by omega) h0 hh (by injection h with h; exact h.symm)
    | none =>
      rw [hh] at h
      simp only at h
      split at h
      · cases hh : valS 8 65535 s.dropLast with
        | none => rw [hh] at h; cases h
        | some n =>
          rw [hh] at h
          exact two 8 s.dropLast n (by omega) (by omega) (by omega) hd0 hh (by injection h with h; exact h.symm)
      · split at h
        · cases hh : valS 8 255 s.dropLast with
          | none => rw [hh] at h; cases h
          | some n =>
            rw [hh] at h
            obtain ⟨hne, a1, a2, a3⟩ := valS_inv 8 255 s.dropLast n hd0 hh
            have ht : t = ⟨3, [], n⟩ := by injection h with h; exact h.symm
            subst ht
            refine ⟨.inr (.inr (.inr (.inl ⟨rfl, rfl, by rw [a2]; exact Int.natCast_nonneg _, a3⟩))), ?_⟩
            show (octD n.toNat ++ [67]).length ≤ _
            have := oct_fit s.dropLast hne a1
            have hl : 1 ≤ s.dropLast.length := by
              cases hq : s.dropLast with
              | nil => exact absurd hq hne
              | cons c r => simp
            rw [a2, Int.toNat_natCast, List.length_append]
            simp; omega
        · cases h
/-- A step at any other byte. -/
theorem stp_other (c : UInt8) (r : List UInt8) (h1 : isBl c = false) (h2 : (c :: r).take 2 ≠ [40, 42]) (h3 : isLt c = false) (h4 : isDg c = false) (h5 : ¬ (c = 34 ∨ c = 39)) :
    stp (c :: r) = if symb (c :: r) = 0 then (none, 0, 40) else (some (plainT ((c :: r).take (symb (c :: r)))), symb (c :: r), 0) := by
  unfold stp
  rw [show (c :: r).headD 0 = c from rfl, if_neg (by rw [h1]; decide), if_neg h2]
  unfold oneL
  rw [show (c :: r).headD 0 = c from rfl, if_neg (by rw [h3]; decide), if_neg (by rw [h4]; decide), if_neg h5]
theorem numS_len (s : List UInt8) : (numS s).length ≤ s.length ∧ ∀ b ∈ numS s, 0 ≤ digV b := by
  have h1 := tw_len isHx s
  unfold numS
  split
  · rename_i h
    have : (s.takeWhile isHx).length < s.length := by
      rcases Nat.lt_or_ge (s.takeWhile isHx).length s.length with k | k
      · exact k
      · rw [List.drop_of_length_le k] at h; cases h
    refine ⟨by simp; omega, fun b hb => ?_⟩
    rcases List.mem_append.1 hb with hb | hb
    · exact hx_pos b (tw_all isHx s b hb)
    · rw [List.mem_singleton] at hb; subst hb; decide
  · exact ⟨h1, fun b hb => hx_pos b (tw_all isHx s b hb)⟩
theorem numS_pos (c : UInt8) (r : List UInt8) (h : isDg c = true) : 1 ≤ (numS (c :: r)).length := by
  have : 1 ≤ ((c :: r).takeWhile isHx).length := by
    rw [List.takeWhile_cons, if_pos (by unfold isHx; rw [h]; rfl)]; simp
  unfold numS
  split
  · simp
  · exact this
theorem sym_cases (c : UInt8) (r : List UInt8) (h : symb (c :: r) ≠ 0) : tokOk (plainT ((c :: r).take (symb (c :: r)))) ∧ 1 ≤ symb (c :: r) ∧ symb (c :: r) ≤ (c :: r).length ∧ (txtT (plainT ((c :: r).take (symb (c :: r))))).length ≤ 3 * symb (c :: r) := by
  unfold symb at h ⊢
  by_cases h2 : syms2.contains ((c :: r).take 2) = true
  · rw [if_pos h2]
    have hm : (c :: r).take 2 ∈ syms2 := List.contains_iff_mem.1 h2
    have hl : 2 ≤ (c :: r).length := by
      have : ((c :: r).take 2).length = 2 := by
        unfold syms2 at hm
        simp only [List.mem_cons, List.not_mem_nil, or_false] at hm
        rcases hm with h | h | h | h | h <;> (rw [h]; rfl)
      rw [List.length_take] at this; omega
    refine ⟨?_, by omega, hl, ?_⟩
    · unfold syms2 at hm
      simp only [List.mem_cons, List.not_mem_nil, or_false] at hm
      rcases hm with h | h | h | h | h <;> (rw [h]; exact .inr (.inr (.inr (.inr (.inr ⟨rfl, rfl, by decide⟩)))))
    · unfold syms2 at hm
      simp only [List.mem_cons, List.not_mem_nil, or_false] at hm
      rcases hm with h | h | h | h | h <;> (rw [h]; decide)
  · rw [if_neg h2] at h ⊢
    by_cases h1 : syms1.contains ((c :: r).headD 0) = true
    · rw [if_pos h1]
      have hm : c ∈ syms1 := List.contains_iff_mem.1 h1
      refine ⟨?_, by omega, by simp, ?_⟩
      · show tokOk (plainT [c])
        unfold syms1 at hm
        simp only [List.mem_cons, List.not_mem_nil, or_false] at hm
        rcases hm with rfl | rfl | rfl | rfl | rfl | rfl | rfl | rfl | rfl | rfl | rfl | rfl | rfl | rfl | rfl | rfl | rfl | rfl | rfl | rfl | rfl | rfl
        all_goals first | exact .inr (.inr (.inr (.inr (.inr ⟨rfl, rfl, by decide⟩)))) | exact .inr (.inl ⟨rfl, by decide, rfl⟩)
      · show (txtT (plainT [c])).length ≤ 3
        unfold syms1 at hm
        simp only [List.mem_cons, List.not_mem_nil, or_false] at hm
        rcases hm with rfl | rfl | rfl | rfl | rfl | rfl | rfl | rfl | rfl | rfl | rfl | rfl | rfl | rfl | rfl | rfl | rfl | rfl | rfl | rfl | rfl | rfl
        all_goals decide
    · rw [if_neg h1] at h; exact absurd rfl h
/-- WHAT A STEP GIVES: a token that may be, of at least a byte, whose text is at most three times as long. -/
theorem stp_ok (s : List UInt8) (hs : s ≠ []) (t : T0) (n : Nat) (e : Int) (h : stp s = (some t, n, e)) : tokOk t ∧ 1 ≤ n ∧ n ≤ s.length ∧ (txtT t).length ≤ 3 * n ∧ e = 0 := by
  cases s with
  | nil => exact absurd rfl hs
  | cons c r =>
    by_cases h3 : isLt c = true
    · rw [stp_letter c r h3] at h
      split at h
      · cases h
      · rename_i hl
        injection h with ha hb
        injection ha with ha
        injection hb with hb hc
        subst ha; subst hb
        have hall := tw_all isAn (c :: r)
        have hle := tw_len isAn (c :: r)
        have hx : (c :: r).takeWhile isAn = c :: r.takeWhile isAn := by rw [List.takeWhile_cons, if_pos (by unfold isAn; rw [h3]; rfl)]
        have hp : 1 ≤ ((c :: r).takeWhile isAn).length := by rw [hx]; simp
        refine ⟨?_, hp, hle, ?_, hc.symm⟩
        · cases hw : wordB ((c :: r).takeWhile isAn)
          · refine .inl ⟨rfl, ?_, rfl⟩
            unfold nameB
            rw [hw]
            simp only [Bool.and_eq_true, Bool.not_eq_true', decide_eq_true_eq]
            exact ⟨⟨⟨⟨by rw [hx]; rfl, by omega⟩, by rw [hx]; simpa using h3⟩, trivial⟩, List.all_eq_true.2 hall⟩
          · exact .inr (.inl ⟨rfl, hw, rfl⟩)
        · have : txtT ⟨if wordB ((c :: r).takeWhile isAn) = true then 6 else 1, (c :: r).takeWhile isAn, 0⟩ = (c :: r).takeWhile isAn := by
            unfold txtT
            cases wordB ((c :: r).takeWhile isAn) <;> rfl
          rw [this]; omega
    · have h3' : isLt c = false := by simpa using h3
      by_cases h4 : isDg c = true
      · rw [stp_digit c r h4] at h
        cases hn : num (numS (c :: r)) with
        | none => rw [hn] at h; cases h
        | some t' =>
          rw [hn] at h
          injection h with ha hb
          injection ha with ha
          injection hb with hb hc
          subst ha; subst hb
          obtain ⟨l1, l2⟩ := numS_len (c :: r)
          obtain ⟨k1, k2⟩ := num_inv _ _ l2 hn
          have := numS_pos c r h4
          exact ⟨k1, this, l1, by omega, hc.symm⟩
      · have h4' : isDg c = false := by simpa using h4
        by_cases h5 : c = 34 ∨ c = 39
        · rw [stp_quote c r h5] at h
          split at h
          · rename_i hq
            injection h with ha hb
            injection ha with ha
            injection hb with hb hc
            subst ha; subst hb
            have hall := tw_all (fun b => b != c && b != 10) r
            have hle : (strS c r).length < r.length := by
              rcases Nat.lt_or_ge (strS c r).length r.length with k | k
              · exact k
              · rw [List.drop_of_length_le k] at hq; cases hq
            have hno : ∀ b ∈ strS c r, b ≠ c ∧ b ≠ 10 := fun b hb => by
              have := hall b hb
              simpa using this
            refine ⟨.inr (.inr (.inr (.inr (.inl ⟨rfl, rfl, fun b hb => (hno b hb).2, fun h34 => ?_⟩)))), by omega, by simp; omega, ?_, hc.symm⟩
            · rcases h5 with rfl | rfl
              · exact absurd rfl (hno 34 (List.contains_iff_mem.1 h34)).1
              · cases h39 : (strS 39 r).contains 39
                · rfl
                · exact absurd rfl (hno 39 (List.contains_iff_mem.1 h39)).1
            · show (if (strS c r).contains 34 then 39 :: (strS c r ++ [39]) else 34 :: (strS c r ++ [34])).length ≤ _
              split <;> (simp; omega)
          · cases h
        · by_cases h1 : isBl c = true
          · unfold stp at h
            rw [show (c :: r).headD 0 = c from rfl, if_pos h1] at h
            cases h
          · have h1' : isBl c = false := by simpa using h1
            by_cases h2 : (c :: r).take 2 = [40, 42]
            · unfold stp at h
              rw [show (c :: r).headD 0 = c from rfl, if_neg h1, if_pos h2] at h
              cases hq : cmt 0 (c :: r) with
              | none => rw [hq] at h; cases h
              | some m => rw [hq] at h; cases h
            · rw [stp_other c r h1' h2 h3' h4' h5] at h
              split at h
              · cases h
              · rename_i h0
                injection h with ha hb
                injection ha with ha
                injection hb with hb hc
                subst ha; subst hb
                obtain ⟨k1, k2, k3, k4⟩ := sym_cases c r h0
                exact ⟨k1, k2, k3, k4, hc.symm⟩
end Go.Proofs.YtliebhpddjbjeaaGreatDoor
