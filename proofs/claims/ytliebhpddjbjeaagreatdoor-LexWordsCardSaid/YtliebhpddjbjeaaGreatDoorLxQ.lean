/- Layer 4 by plain functions: lists, comments, digits. No program stands in here. -/
import Derived.Test.YtliebhpddjbjeaaGreatDoorLxP
import Derived.KernelRfl
namespace Go.Proofs.YtliebhpddjbjeaaGreatDoor
open Go
set_option linter.unusedVariables false

theorem tw_len (p : UInt8 → Bool) : ∀ s : List UInt8, (s.takeWhile p).length ≤ s.length
  | [] => Nat.le_refl _
  | c :: r => by
    rw [List.takeWhile_cons]
    split
    · have := tw_len p r; simp; omega
    · simp
theorem tw_all (p : UInt8 → Bool) : ∀ s : List UInt8, ∀ b ∈ s.takeWhile p, p b = true
  | [], b, h => by simp at h
  | c :: r, b, h => by
    rw [List.takeWhile_cons] at h
    split at h
    · rename_i hc
      rcases List.mem_cons.1 h with rfl | h
      · exact hc
      · exact tw_all p r b h
    · simp at h
theorem tw_app (p : UInt8 → Bool) : ∀ (u rest : List UInt8), (∀ b ∈ u, p b = true) → (∀ c, rest.head? = some c → p c = false) → (u ++ rest).takeWhile p = u
  | [], [], _, _ => rfl
  | [], c :: r, _, h => by
    show List.takeWhile p (c :: r) = []
    rw [List.takeWhile_cons, if_neg (by rw [h c rfl]; decide)]
  | b :: u, rest, h, h2 => by
    show List.takeWhile p (b :: (u ++ rest)) = _
    rw [List.takeWhile_cons, if_pos (h b (by simp)), tw_app p u rest (fun x hx => h x (by simp [hx])) h2]
theorem tw_take (p : UInt8 → Bool) : ∀ s : List UInt8, s.takeWhile p ++ s.drop (s.takeWhile p).length = s
  | [] => rfl
  | c :: r => by
    rw [List.takeWhile_cons]
    split
    · have := tw_take p r
      simpa using this
    · rfl
theorem tw_next (p : UInt8 → Bool) : ∀ (s : List UInt8) (c : UInt8), (s.drop (s.takeWhile p).length).head? = some c → p c = false
  | [], c, h => by simp at h
  | b :: r, c, h => by
    rw [List.takeWhile_cons] at h
    split at h
    · exact tw_next p r c (by simpa using h)
    · rename_i hb
      simp at h
      subst h
      simpa using hb
/-- What stands behind makes no difference, if it begins with none of these. -/
theorem tw_more (p : UInt8 → Bool) (s x : List UInt8) (h : ∀ c, x.head? = some c → p c = false) : (s ++ x).takeWhile p = s.takeWhile p := by
  have e := tw_take p s
  have h1 : s ++ x = s.takeWhile p ++ (s.drop (s.takeWhile p).length ++ x) := by rw [← List.append_assoc, e]
  rw [h1]
  refine tw_app p _ _ (tw_all p s) fun c hc => ?_
  cases hd : s.drop (s.takeWhile p).length with
  | nil => rw [hd] at hc; exact h c hc
  | cons b r =>
    rw [hd] at hc
    obtain rfl : b = c := by simpa using hc
    exact tw_next p s b (by rw [hd]; rfl)
theorem cmt_bd : ∀ (s : List UInt8) (deep n : Nat), cmt deep s = some n → 2 ≤ n ∧ n ≤ s.length
  | [], _, n, h => by simp [cmt] at h
  | [_], _, n, h => by simp [cmt] at h
  | c :: d :: r, deep, n, h => by
    rw [cmt] at h
    split at h
    · cases hr : cmt (deep + 1) r with
      | none => rw [hr] at h; cases h
      | some m =>
        rw [hr] at h
        have := cmt_bd r _ m hr
        simp at h
        simp; omega
    · split at h
      · split at h
        · injection h with h; simp; omega
        · cases hr : cmt (deep - 1) r with
          | none => rw [hr] at h; cases h
          | some m =>
            rw [hr] at h
            have := cmt_bd r _ m hr
            simp at h
            simp; omega
      · cases hr : cmt deep (d :: r) with
        | none => rw [hr] at h; cases h
        | some m =>
          rw [hr] at h
          have := cmt_bd (d :: r) _ m hr
          simp at h this
          simp; omega
theorem cmt_more : ∀ (s x : List UInt8) (deep n : Nat), cmt deep s = some n → cmt deep (s ++ x) = some n
  | [], _, _, n, h => by simp [cmt] at h
  | [_], _, _, n, h => by simp [cmt] at h
  | c :: d :: r, x, deep, n, h => by
    show cmt deep (c :: d :: (r ++ x)) = some n
    rw [cmt] at h ⊢
    split at h
    · rename_i h1
      rw [if_pos h1]
      cases hr : cmt (deep + 1) r with
      | none => rw [hr] at h; cases h
      | some m => rw [hr] at h; rw [cmt_more r x _ m hr]; exact h
    · rename_i h1
      rw [if_neg h1]
      split at h
      · rename_i h2
        rw [if_pos h2]
        split at h
        · rename_i h3
          rw [if_pos h3]; exact h
        · rename_i h3
          rw [if_neg h3]
          cases hr : cmt (deep - 1) r with
          | none => rw [hr] at h; cases h
          | some m => rw [hr] at h; rw [cmt_more r x _ m hr]; exact h
      · rename_i h2
        rw [if_neg h2]
        cases hr : cmt deep (d :: r) with
        | none => rw [hr] at h; cases h
        | some m =>
          rw [hr] at h
          have := cmt_more (d :: r) x _ m hr
          rw [show (d :: r) ++ x = d :: (r ++ x) from rfl] at this
          rw [this]; exact h
/-- The number that digits of a base are, behind a. -/
def vOf (base : Nat) (a : Nat) : List UInt8 → Nat
  | [] => a
  | c :: r => vOf base (a * base + (digV c).toNat) r
theorem vOf_ge (base : Nat) (hb : 1 ≤ base) : ∀ (s : List UInt8) (a : Nat), a ≤ vOf base a s
  | [], a => Nat.le_refl _
  | c :: r, a => by
    have h1 := vOf_ge base hb r (a * base + (digV c).toNat)
    have h2 : a * 1 ≤ a * base := Nat.mul_le_mul_left a hb
    show a ≤ vOf base (a * base + (digV c).toNat) r
    omega
theorem vOf_snoc (base : Nat) : ∀ (s : List UInt8) (a : Nat) (c : UInt8), vOf base a (s ++ [c]) = vOf base a s * base + (digV c).toNat
  | [], a, c => rfl
  | b :: r, a, c => vOf_snoc base r _ c
theorem valL_ok (base : Nat) (hb : 1 ≤ base) (most : Int) : ∀ (s : List UInt8) (a : Nat), (∀ b ∈ s, 0 ≤ digV b ∧ digV b < base) → ((vOf base a s : Nat) : Int) ≤ most → valL base most a s = some ((vOf base a s : Nat) : Int)
  | [], a, _, h => by
    show (if (a : Int) ≤ most then some (a : Int) else none) = _
    have h' : (a : Int) ≤ most := h
    rw [if_pos h']; rfl
  | c :: r, a, hd, h => by
    have hc := hd c (by simp)
    have h1 := vOf_ge base hb (c :: r) a
    have e : ((a : Int) * base + digV c) = ((a * base + (digV c).toNat : Nat) : Int) := by
      rw [Int.natCast_add, Int.natCast_mul, Int.toNat_of_nonneg hc.1]
    rw [valL, if_neg (by omega), e]
    exact valL_ok base hb most r _ (fun b hbb => hd b (by simp [hbb])) h
theorem valL_inv (base : Nat) (most : Int) : ∀ (s : List UInt8) (a : Nat) (n : Int), (∀ b ∈ s, 0 ≤ digV b) → valL base most a s = some n → (∀ b ∈ s, digV b < base) ∧ n = ((vOf base a s : Nat) : Int) ∧ n ≤ most
  | [], a, n, _, h => by
    have h' : (if (a : Int) ≤ most then some (a : Int) else none) = some n := h
    split at h'
    · injection h' with h'
      subst h'
      exact ⟨fun b hb => by simp at hb, rfl, by assumption⟩
    · cases h'
  | c :: r, a, n, hd, h => by
    have hc := hd c (by simp)
    have e : ((a : Int) * base + digV c) = ((a * base + (digV c).toNat : Nat) : Int) := by
      rw [Int.natCast_add, Int.natCast_mul, Int.toNat_of_nonneg hc]
    rw [valL] at h
    split at h
    · cases h
    · rename_i hn
      rw [e] at h
      obtain ⟨h1, h2, h3⟩ := valL_inv base most r _ n (fun b hb => hd b (by simp [hb])) h
      refine ⟨fun b hb => ?_, h2, h3⟩
      rcases List.mem_cons.1 hb with rfl | hb
      · exact Int.not_le.1 fun k => hn (.inl k)
      · exact h1 b hb
theorem valL_none (base most : Int) : ∀ (s : List UInt8) (a : Int) (b : UInt8), b ∈ s → base ≤ digV b → valL base most a s = none
  | c :: r, a, b, hb, h => by
    rw [valL]
    split
    · rfl
    · rename_i hn
      rcases List.mem_cons.1 hb with rfl | hb
      · exact absurd (.inl h) hn
      · exact valL_none base most r _ b hb h
theorem digV_dig (k : Nat) (h : k < 10) : digV (UInt8.ofNat (48 + k)) = (k : Int) := by
  have e : (UInt8.ofNat (48 + k)).toNat = 48 + k := by rw [UInt8.toNat_ofNat']; omega
  unfold digV
  rw [e, if_neg (by omega)]; omega
theorem dgN (k : Nat) (h : k < 10) : (UInt8.ofNat (48 + k)).toNat = 48 + k := by rw [UInt8.toNat_ofNat']; omega
/-- Digits of a number by a base up to ten. -/
theorem dec_digs (u : Nat) : (∀ b ∈ Lib.decDigits u, 48 ≤ b.toNat ∧ b.toNat ≤ 57) ∧ vOf 10 0 (Lib.decDigits u) = u ∧ Lib.decDigits u ≠ [] := by
  induction u using Nat.strongRecOn with
  | _ u ih =>
    rw [Lib.decDigits]
    by_cases h : u < 10
    · rw [dif_pos h]
      refine ⟨fun b hb => ?_, ?_, by simp⟩
      · rw [List.mem_singleton] at hb; subst hb; rw [dgN u h]; omega
      · show 0 * 10 + (digV (UInt8.ofNat (48 + u))).toNat = u
        rw [digV_dig u h]; omega
    · rw [dif_neg h]
      obtain ⟨i1, i2, i3⟩ := ih (u / 10) (by omega)
      refine ⟨fun b hb => ?_, ?_, by simp⟩
      · rcases List.mem_append.1 hb with hb | hb
        · exact i1 b hb
        · rw [List.mem_singleton] at hb; subst hb; rw [dgN (u % 10) (by omega)]; omega
      · rw [vOf_snoc, i2, digV_dig _ (by omega)]; omega
theorem oct_digs (u : Nat) : (∀ b ∈ octD u, 48 ≤ b.toNat ∧ b.toNat ≤ 55) ∧ vOf 8 0 (octD u) = u ∧ octD u ≠ [] := by
  induction u using Nat.strongRecOn with
  | _ u ih =>
    rw [octD]
    by_cases h : u < 8
    · rw [dif_pos h]
      refine ⟨fun b hb => ?_, ?_, by simp⟩
      · rw [List.mem_singleton] at hb; subst hb; rw [dgN u (by omega)]; omega
      · show 0 * 8 + (digV (UInt8.ofNat (48 + u))).toNat = u
        rw [digV_dig u (by omega)]; omega
    · rw [dif_neg h]
      obtain ⟨i1, i2, i3⟩ := ih (u / 8) (by omega)
      refine ⟨fun b hb => ?_, ?_, by simp⟩
      · rcases List.mem_append.1 hb with hb | hb
        · exact i1 b hb
        · rw [List.mem_singleton] at hb; subst hb; rw [dgN (u % 8) (by omega)]; omega
      · rw [vOf_snoc, i2, digV_dig _ (by omega)]; omega
theorem dec_short10 (n u : Nat) (h : u < 10 ^ (n + 1)) : (Lib.decDigits u).length ≤ n + 1 := by
  induction n generalizing u with
  | zero => rw [Lib.decDigits, dif_pos (by simpa using h)]; simp
  | succ n ih =>
    by_cases h2 : u < 10
    · rw [Lib.decDigits, dif_pos h2]; simp
    · rw [Lib.decDigits, dif_neg h2]
      have := ih (u / 10) (by rw [Nat.div_lt_iff_lt_mul (by omega), ← Nat.pow_succ]; exact h)
      simp; omega
theorem oct_short8 (n u : Nat) (h : u < 8 ^ (n + 1)) : (octD u).length ≤ n + 1 := by
  induction n generalizing u with
  | zero => rw [octD, dif_pos (by simpa using h)]; simp
  | succ n ih =>
    by_cases h2 : u < 8
    · rw [octD, dif_pos h2]; simp
    · rw [octD, dif_neg h2]
      have := ih (u / 8) (by rw [Nat.div_lt_iff_lt_mul (by omega), ← Nat.pow_succ]; exact h)
      simp; omega
/-- So many digits make no more. -/
theorem vOf_lt (base : Nat) (hb : 1 ≤ base) : ∀ (s : List UInt8) (a m : Nat), (∀ b ∈ s, digV b < base) → a < m → vOf base a s < m * base ^ s.length
  | [], a, m, _, h => by
    show a < m * base ^ 0
    rw [Nat.pow_zero, Nat.mul_one]; exact h
  | c :: r, a, m, hd, h => by
    have hc := hd c (by simp)
    have h2 : a * base + (digV c).toNat < m * base := by
      have : (a + 1) * base ≤ m * base := Nat.mul_le_mul_right base h
      rw [Nat.add_mul] at this
      omega
    have := vOf_lt base hb r _ (m * base) (fun b hbb => hd b (by simp [hbb])) h2
    rw [List.length_cons, Nat.pow_succ, Nat.mul_comm (base ^ r.length) base, ← Nat.mul_assoc]
    exact this
end Go.Proofs.YtliebhpddjbjeaaGreatDoor
