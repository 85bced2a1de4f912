/- Several texts in one. -/
import Derived.Lib.ItoaNum
import Derived.KernelRfl
/- Layer 4 by plain functions: what a source's first step is, and its tokens. No program stands in here. -/
namespace Go.Proofs.YtggembknccbpnaaGreat
open Go
set_option linter.unusedVariables false

/-- A token without its places: its kind, its text, its number. -/
structure T0 where
  k : Nat
  x : List UInt8
  n : Int
def isLt (c : UInt8) : Bool := (decide (65 ≤ c.toNat) && decide (c.toNat ≤ 90)) || (decide (97 ≤ c.toNat) && decide (c.toNat ≤ 122))
def isDg (c : UInt8) : Bool := decide (48 ≤ c.toNat) && decide (c.toNat ≤ 57)
def isAn (c : UInt8) : Bool := isLt c || isDg c
def isHx (c : UInt8) : Bool := isDg c || (decide (65 ≤ c.toNat) && decide (c.toNat ≤ 70))
def isBl (c : UInt8) : Bool := c == 9 || c == 10 || c == 13 || c == 32
/-- The reserved words. -/
def resv : List (List UInt8) := [[65, 78, 68], [65, 82, 82, 65, 89], [66, 69, 71, 73, 78], [66, 89], [67, 65, 83, 69], [67, 79, 78, 83, 84], [68, 69, 70, 73, 78, 73, 84, 73, 79, 78], [68, 73, 86], [68, 79], [69, 76, 83, 69], [69, 76, 83, 73, 70], [69, 78, 68], [69, 88, 73, 84], [69, 88, 80, 79, 82, 84], [70, 79, 82], [70, 82, 79, 77], [73, 70], [73, 77, 80, 76, 69, 77, 69, 78, 84, 65, 84, 73, 79, 78], [73, 77, 80, 79, 82, 84], [73, 78], [76, 79, 79, 80], [77, 79, 68], [77, 79, 68, 85, 76, 69], [78, 79, 84], [79, 70], [79, 82], [80, 79, 73, 78, 84, 69, 82], [80, 82, 79, 67, 69, 68, 85, 82, 69], [81, 85, 65, 76, 73, 70, 73, 69, 68], [82, 69, 67, 79, 82, 68], [82, 69, 80, 69, 65, 84], [82, 69, 84, 85, 82, 78], [83, 69, 84], [84, 72, 69, 78], [84, 79], [84, 89, 80, 69], [85, 78, 84, 73, 76], [86, 65, 82], [87, 72, 73, 76, 69], [87, 73, 84, 72]]
def wordB (s : List UInt8) : Bool := resv.contains s
def nameB (s : List UInt8) : Bool := !s.isEmpty && decide (s.length ≤ 32) && (s.take 1).all isLt && !wordB s && s.all isAn
/-- How many bytes a comment has, of which so many are open. -/
def cmt : Nat → List UInt8 → Option Nat
  | _, [] => none
  | _, [_] => none
  | deep, c :: d :: r =>
    if c = 40 ∧ d = 42 then (cmt (deep + 1) r).map (· + 2)
    else if c = 42 ∧ d = 41 then (if deep ≤ 1 then some 2 else (cmt (deep - 1) r).map (· + 2))
    else (cmt deep (d :: r)).map (· + 1)
def digV (c : UInt8) : Int := if 65 ≤ c.toNat then (c.toNat : Int) - 55 else (c.toNat : Int) - 48
def valL (base most : Int) (n : Int) : List UInt8 → Option Int
  | [] => if n ≤ most then some n else none
  | c :: r => if base ≤ digV c ∨ most < n then none else valL base most (n * base + digV c) r
def valS (base most : Int) (s : List UInt8) : Option Int := if s = [] then none else valL base most 0 s
/-- What digits and letters are. -/
def num (s : List UInt8) : Option T0 :=
  if s.getLast? = some 72 then (valS 16 65535 s.dropLast).map (⟨2, [], ·⟩)
  else match valS 10 65535 s with
    | some n => some ⟨2, [], n⟩
    | none =>
      if s.getLast? = some 66 then (valS 8 65535 s.dropLast).map (⟨2, [], ·⟩)
      else if s.getLast? = some 67 then (valS 8 255 s.dropLast).map (⟨3, [], ·⟩)
      else none
def syms2 : List (List UInt8) := [[58, 61], [60, 62], [60, 61], [62, 61], [46, 46]]
def syms1 : List UInt8 := [43, 45, 42, 47, 126, 46, 44, 59, 40, 91, 123, 94, 61, 35, 60, 62, 58, 41, 93, 125, 124, 38]
def symb (s : List UInt8) : Nat :=
  if syms2.contains (s.take 2) then 2 else if syms1.contains (s.headD 0) then 1 else 0
/-- The one way to write a symbol. -/
def plainT (u : List UInt8) : T0 :=
  if u = [60, 62] then ⟨5, [35], 0⟩ else if u = [38] then ⟨6, [65, 78, 68], 0⟩ else if u = [126] then ⟨6, [78, 79, 84], 0⟩ else ⟨5, u, 0⟩
/-- The digits that a number begins with, and the H behind them. -/
def numS (s : List UInt8) : List UInt8 := if (s.drop (s.takeWhile isHx).length).head? = some 72 then s.takeWhile isHx ++ [72] else s.takeWhile isHx
/-- What stands in a string behind its mark. -/
def strS (c : UInt8) (r : List UInt8) : List UInt8 := r.takeWhile fun b => b != c && b != 10
/-- The token that s begins with, and how many bytes it has; none: the error. -/
def oneL (s : List UInt8) : Option T0 × Nat × Int :=
  if isLt (s.headD 0) then
    if 32 < (s.takeWhile isAn).length then (none, 0, 5) else (some ⟨if wordB (s.takeWhile isAn) then 6 else 1, s.takeWhile isAn, 0⟩, (s.takeWhile isAn).length, 0)
  else if isDg (s.headD 0) then
    match num (numS s) with
    | some t => (some t, (numS s).length, 0)
    | none => (none, 0, 41)
  else if s.headD 0 = 34 ∨ s.headD 0 = 39 then
    if (s.tail.drop (strS (s.headD 0) s.tail).length).head? = some (s.headD 0) then (some ⟨4, strS (s.headD 0) s.tail, 0⟩, (strS (s.headD 0) s.tail).length + 2, 0) else (none, 0, 42)
  else if symb s = 0 then (none, 0, 40) else (some (plainT (s.take (symb s))), symb s, 0)
/-- A source's first step: a token, or what is blank, of so many bytes; or an error. -/
def stp (s : List UInt8) : Option T0 × Nat × Int :=
  if isBl (s.headD 0) then (none, 1, 0)
  else if s.take 2 = [40, 42] then
    match cmt 0 s with
    | some n => (none, n, 0)
    | none => (none, 0, 43)
  else oneL s
/-- The tokens from a place on, with where they begin and end; where it ends, and its error. -/
def scanO : Nat → Nat → List UInt8 → List (T0 × Nat × Nat) × Nat × Int
  | 0, off, _ => ([], off, 0)
  | f + 1, off, s =>
    if s = [] then ([], off, 0) else
    match stp s with
    | (some t, n, _) => ((t, off, off + n) :: (scanO f (off + n) (s.drop n)).1, (scanO f (off + n) (s.drop n)).2)
    | (none, n, e) => if e = 0 then scanO f (off + n) (s.drop n) else ([], off, e)
def scanS (off : Nat) (s : List UInt8) : List (T0 × Nat × Nat) × Nat × Int := scanO s.length off s
/-- Digits 0 to 7 of a number. -/
def octD (u : Nat) : List UInt8 := if h : u < 8 then [UInt8.ofNat (48 + u)] else octD (u / 8) ++ [UInt8.ofNat (48 + u % 8)]
termination_by u
decreasing_by omega
/-- How a token is written. -/
def txtT (t : T0) : List UInt8 :=
  if t.k = 2 then Lib.decDigits t.n.toNat else if t.k = 3 then octD t.n.toNat ++ [67]
  else if t.k = 4 then (if t.x.contains 34 then 39 :: (t.x ++ [39]) else 34 :: (t.x ++ [34])) else t.x
/-- Tokens as a source. -/
def joinT : List T0 → List UInt8
  | [] => []
  | t :: r => if r = [] then txtT t else txtT t ++ 32 :: joinT r
end Go.Proofs.YtggembknccbpnaaGreat
/- Layer 4 by plain functions: lists, comments, digits. No program stands in here. -/
namespace Go.Proofs.YtggembknccbpnaaGreat
open Go
set_option linter.unusedVariables false

theorem tw_len (p : UInt8 → Bool) : ∀ s : List UInt8, (s.takeWhile p).length ≤ s.length
  | [] => Nat.le_refl _
  | c :: r => by
    rw [List.takeWhile_cons]
    split
    · have := tw_len p r; simp; omega
    · simp
theorem tw_all (p : UInt8 → Bool) : ∀ s : List UInt8, ∀ b ∈ s.takeWhile p, p b = true
  | [], b, h => by simp at h
  | c :: r, b, h => by
    rw [List.takeWhile_cons] at h
    split at h
    · rename_i hc
      rcases List.mem_cons.1 h with rfl | h
      · exact hc
      · exact tw_all p r b h
    · simp at h
theorem tw_app (p : UInt8 → Bool) : ∀ (u rest : List UInt8), (∀ b ∈ u, p b = true) → (∀ c, rest.head? = some c → p c = false) → (u ++ rest).takeWhile p = u
  | [], [], _, _ => rfl
  | [], c :: r, _, h => by
    show List.takeWhile p (c :: r) = []
    rw [List.takeWhile_cons, if_neg (by rw [h c rfl]; decide)]
  | b :: u, rest, h, h2 => by
    show List.takeWhile p (b :: (u ++ rest)) = _
    rw [List.takeWhile_cons, if_pos (h b (by simp)), tw_app p u rest (fun x hx => h x (by simp [hx])) h2]
theorem tw_take (p : UInt8 → Bool) : ∀ s : List UInt8, s.takeWhile p ++ s.drop (s.takeWhile p).length = s
  | [] => rfl
  | c :: r => by
    rw [List.takeWhile_cons]
    split
    · have := tw_take p r
      simpa using this
    · rfl
theorem tw_next (p : UInt8 → Bool) : ∀ (s : List UInt8) (c : UInt8), (s.drop (s.takeWhile p).length).head? = some c → p c = false
  | [], c, h => by simp at h
  | b :: r, c, h => by
    rw [List.takeWhile_cons] at h
    split at h
    · exact tw_next p r c (by simpa using h)
    · rename_i hb
      simp at h
      subst h
      simpa using hb
/-- What stands behind makes no difference, if it begins with none of these. -/
theorem tw_more (p : UInt8 → Bool) (s x : List UInt8) (h : ∀ c, x.head? = some c → p c = false) : (s ++ x).takeWhile p = s.takeWhile p := by
  have e := tw_take p s
  have h1 : s ++ x = s.takeWhile p ++ (s.drop (s.takeWhile p).length ++ x) := by rw [← List.append_assoc, e]
  rw [h1]
  refine tw_app p _ _ (tw_all p s) fun c hc => ?_
  cases hd : s.drop (s.takeWhile p).length with
  | nil => rw [hd] at hc; exact h c hc
  | cons b r =>
    rw [hd] at hc
    obtain rfl : b = c := by simpa using hc
    exact tw_next p s b (by rw [hd]; rfl)
theorem cmt_bd : ∀ (s : List UInt8) (deep n : Nat), cmt deep s = some n → 2 ≤ n ∧ n ≤ s.length
  | [], _, n, h => by simp [cmt] at h
  | [_], _, n, h => by simp [cmt] at h
  | c :: d :: r, deep, n, h => by
    rw [cmt] at h
    split at h
    · cases hr : cmt (deep + 1) r with
      | none => rw [hr] at h; cases h
      | some m =>
        rw [hr] at h
        have := cmt_bd r _ m hr
        simp at h
        simp; omega
    · split at h
      · split at h
        · injection h with h; simp; omega
        · cases hr : cmt (deep - 1) r with
          | none => rw [hr] at h; cases h
          | some m =>
            rw [hr] at h
            have := cmt_bd r _ m hr
            simp at h
            simp; omega
      · cases hr : cmt deep (d :: r) with
        | none => rw [hr] at h; cases h
        | some m =>
          rw [hr] at h
          have := cmt_bd (d :: r) _ m hr
          simp at h this
          simp; omega
theorem cmt_more : ∀ (s x : List UInt8) (deep n : Nat), cmt deep s = some n → cmt deep (s ++ x) = some n
  | [], _, _, n, h => by simp [cmt] at h
  | [_], _, _, n, h => by simp [cmt] at h
  | c :: d :: r, x, deep, n, h => by
    show cmt deep (c :: d :: (r ++ x)) = some n
    rw [cmt] at h ⊢
    split at h
    · rename_i h1
      rw [if_pos h1]
      cases hr : cmt (deep + 1) r with
      | none => rw [hr] at h; cases h
      | some m => rw [hr] at h; rw [cmt_more r x _ m hr]; exact h
    · rename_i h1
      rw [if_neg h1]
      split at h
      · rename_i h2
        rw [if_pos h2]
        split at h
        · rename_i h3
          rw [if_pos h3]; exact h
        · rename_i h3
          rw [if_neg h3]
          cases hr : cmt (deep - 1) r with
          | none => rw [hr] at h; cases h
          | some m => rw [hr] at h; rw [cmt_more r x _ m hr]; exact h
      · rename_i h2
        rw [if_neg h2]
        cases hr : cmt deep (d :: r) with
        | none => rw [hr] at h; cases h
        | some m =>
          rw [hr] at h
          have := cmt_more (d :: r) x _ m hr
          rw [show (d :: r) ++ x = d :: (r ++ x) from rfl] at this
          rw [this]; exact h
/-- The number that digits of a base are, behind a. -/
def vOf (base : Nat) (a : Nat) : List UInt8 → Nat
  | [] => a
  | c :: r => vOf base (a * base + (digV c).toNat) r
theorem vOf_ge (base : Nat) (hb : 1 ≤ base) : ∀ (s : List UInt8) (a : Nat), a ≤ vOf base a s
  | [], a => Nat.le_refl _
  | c :: r, a => by
    have h1 := vOf_ge base hb r (a * base + (digV c).toNat)
    have h2 : a * 1 ≤ a * base := Nat.mul_le_mul_left a hb
    show a ≤ vOf base (a * base + (digV c).toNat) r
    omega
theorem vOf_snoc (base : Nat) : ∀ (s : List UInt8) (a : Nat) (c : UInt8), vOf base a (s ++ [c]) = vOf base a s * base + (digV c).toNat
  | [], a, c => rfl
  | b :: r, a, c => vOf_snoc base r _ c
theorem valL_ok (base : Nat) (hb : 1 ≤ base) (most : Int) : ∀ (s : List UInt8) (a : Nat), (∀ b ∈ s, 0 ≤ digV b ∧ digV b < base) → ((vOf base a s : Nat) : Int) ≤ most → valL base most a s = some ((vOf base a s : Nat) : Int)
  | [], a, _, h => by
    show (if (a : Int) ≤ most then some (a : Int) else none) = _
    have h' : (a : Int) ≤ most := h
    rw [if_pos h']; rfl
  | c :: r, a, hd, h => by
    have hc := hd c (by simp)
    have h1 := vOf_ge base hb (c :: r) a
    have e : ((a : Int) * base + digV c) = ((a * base + (digV c).toNat : Nat) : Int) := by
      rw [Int.natCast_add, Int.natCast_mul, Int.toNat_of_nonneg hc.1]
    rw [valL, if_neg (by omega), e]
    exact valL_ok base hb most r _ (fun b hbb => hd b (by simp [hbb])) h
theorem valL_inv (base : Nat) (most : Int) : ∀ (s : List UInt8) (a : Nat) (n : Int), (∀ b ∈ s, 0 ≤ digV b) → valL base most a s = some n → (∀ b ∈ s, digV b < base) ∧ n = ((vOf base a s : Nat) : Int) ∧ n ≤ most
  | [], a, n, _, h => by
    have h' : (if (a : Int) ≤ most then some (a : Int) else none) = some n := h
    split at h'
    · injection h' with h'
      subst h'
      exact ⟨fun b hb => by simp at hb, rfl, by assumption⟩
    · cases h'
  | c :: r, a, n, hd, h => by
    have hc := hd c (by simp)
    have e : ((a : Int) * base + digV c) = ((a * base + (digV c).toNat : Nat) : Int) := by
      rw [Int.natCast_add, Int.natCast_mul, Int.toNat_of_nonneg hc]
    rw [valL] at h
    split at h
    · cases h
    · rename_i hn
      rw [e] at h
      obtain ⟨h1, h2, h3⟩ := valL_inv base most r _ n (fun b hb => hd b (by simp [hb])) h
      refine ⟨fun b hb => ?_, h2, h3⟩
      rcases List.mem_cons.1 hb with rfl | hb
      · exact Int.not_le.1 fun k => hn (.inl k)
      · exact h1 b hb
theorem valL_none (base most : Int) : ∀ (s : List UInt8) (a : Int) (b : UInt8), b ∈ s → base ≤ digV b → valL base most a s = none
  | c :: r, a, b, hb, h => by
    rw [valL]
    split
    · rfl
    · rename_i hn
      rcases List.mem_cons.1 hb with rfl | hb
      · exact absurd (.inl h) hn
      · exact valL_none base most r _ b hb h
theorem digV_dig (k : Nat) (h : k < 10) : digV (UInt8.ofNat (48 + k)) = (k : Int) := by
  have e : (UInt8.ofNat (48 + k)).toNat = 48 + k := by rw [UInt8.toNat_ofNat']; omega
  unfold digV
  rw [e, if_neg (by omega)]; omega
theorem dgN (k : Nat) (h : k < 10) : (UInt8.ofNat (48 + k)).toNat = 48 + k := by rw [UInt8.toNat_ofNat']; omega
/-- Digits of a number by a base up to ten. -/
theorem dec_digs (u : Nat) : (∀ b ∈ Lib.decDigits u, 48 ≤ b.toNat ∧ b.toNat ≤ 57) ∧ vOf 10 0 (Lib.decDigits u) = u ∧ Lib.decDigits u ≠ [] := by
  induction u using Nat.strongRecOn with
  | _ u ih =>
    rw [Lib.decDigits]
    by_cases h : u < 10
    · rw [dif_pos h]
      refine ⟨fun b hb => ?_, ?_, by simp⟩
      · rw [List.mem_singleton] at hb; subst hb; rw [dgN u h]; omega
      · show 0 * 10 + (digV (UInt8.ofNat (48 + u))).toNat = u
        rw [digV_dig u h]; omega
    · rw [dif_neg h]
      obtain ⟨i1, i2, i3⟩ := ih (u / 10) (by omega)
      refine ⟨fun b hb => ?_, ?_, by simp⟩
      · rcases List.mem_append.1 hb with hb | hb
        · exact i1 b hb
        · rw [List.mem_singleton] at hb; subst hb; rw [dgN (u % 10) (by omega)]; omega
      · rw [vOf_snoc, i2, digV_dig _ (by omega)]; omega
theorem oct_digs (u : Nat) : (∀ b ∈ octD u, 48 ≤ b.toNat ∧ b.toNat ≤ 55) ∧ vOf 8 0 (octD u) = u ∧ octD u ≠ [] := by
  induction u using Nat.strongRecOn with
  | _ u ih =>
    rw [octD]
    by_cases h : u < 8
    · rw [dif_pos h]
      refine ⟨fun b hb => ?_, ?_, by simp⟩
      · rw [List.mem_singleton] at hb; subst hb; rw [dgN u (by omega)]; omega
      · show 0 * 8 + (digV (UInt8.ofNat (48 + u))).toNat = u
        rw [digV_dig u (by omega)]; omega
    · rw [dif_neg h]
      obtain ⟨i1, i2, i3⟩ := ih (u / 8) (by omega)
      refine ⟨fun b hb => ?_, ?_, by simp⟩
      · rcases List.mem_append.1 hb with hb | hb
        · exact i1 b hb
        · rw [List.mem_singleton] at hb; subst hb; rw [dgN (u % 8) (by omega)]; omega
      · rw [vOf_snoc, i2, digV_dig _ (by omega)]; omega
theorem dec_short10 (n u : Nat) (h : u < 10 ^ (n + 1)) : (Lib.decDigits u).length ≤ n + 1 := by
  induction n generalizing u with
  | zero => rw [Lib.decDigits, dif_pos (by simpa using h)]; simp
  | succ n ih =>
    by_cases h2 : u < 10
    · rw [Lib.decDigits, dif_pos h2]; simp
    · rw [Lib.decDigits, dif_neg h2]
      have := ih (u / 10) (by rw [Nat.div_lt_iff_lt_mul (by omega), ← Nat.pow_succ]; exact h)
      simp; omega
theorem oct_short8 (n u : Nat) (h : u < 8 ^ (n + 1)) : (octD u).length ≤ n + 1 := by
  induction n generalizing u with
  | zero => rw [octD, dif_pos (by simpa using h)]; simp
  | succ n ih =>
    by_cases h2 : u < 8
    · rw [octD, dif_pos h2]; simp
    · rw [octD, dif_neg h2]
      have := ih (u / 8) (by rw [Nat.div_lt_iff_lt_mul (by omega), ← Nat.pow_succ]; exact h)
      simp; omega
/-- So many digits make no more. -/
theorem vOf_lt (base : Nat) (hb : 1 ≤ base) : ∀ (s : List UInt8) (a m : Nat), (∀ b ∈ s, digV b < base) → a < m → vOf base a s < m * base ^ s.length
  | [], a, m, _, h => by
    show a < m * base ^ 0
    rw [Nat.pow_zero, Nat.mul_one]; exact h
  | c :: r, a, m, hd, h => by
    have hc := hd c (by simp)
    have h2 : a * base + (digV c).toNat < m * base := by
      have : (a + 1) * base ≤ m * base := Nat.mul_le_mul_right base h
      rw [Nat.add_mul] at this
      omega
    have := vOf_lt base hb r _ (m * base) (fun b hbb => hd b (by simp [hbb])) h2
    rw [List.length_cons, Nat.pow_succ, Nat.mul_comm (base ^ r.length) base, ← Nat.mul_assoc]
    exact this
end Go.Proofs.YtggembknccbpnaaGreat
/- Layer 4 by plain functions: what a step may give, and that it is read back. No program stands in here. -/
namespace Go.Proofs.YtggembknccbpnaaGreat
open Go
set_option linter.unusedVariables false
set_option maxRecDepth 10000

/-- The symbols as they are written one way. -/
def symsP : List (List UInt8) := [[43], [45], [42], [47], [46], [44], [59], [40], [91], [123], [94], [61], [35], [60], [62], [58], [41], [93], [125], [124], [58, 61], [60, 61], [62, 61], [46, 46]]
/-- What a token may be. -/
def tokOk (t : T0) : Prop :=
  (t.k = 1 ∧ nameB t.x = true ∧ t.n = 0) ∨ (t.k = 6 ∧ wordB t.x = true ∧ t.n = 0) ∨ (t.k = 2 ∧ t.x = [] ∧ 0 ≤ t.n ∧ t.n ≤ 65535) ∨ (t.k = 3 ∧ t.x = [] ∧ 0 ≤ t.n ∧ t.n ≤ 255) ∨
  (t.k = 4 ∧ t.n = 0 ∧ (∀ b ∈ t.x, b ≠ 10) ∧ (t.x.contains 34 = true → t.x.contains 39 = false)) ∨ (t.k = 5 ∧ t.n = 0 ∧ symsP.contains t.x = true)
/-- What may stand behind a token that is written. -/
def sepOk (rest : List UInt8) : Prop := ∀ c, rest.head? = some c → c = 9 ∨ c = 10 ∨ c = 13 ∨ c = 32 ∨ c = 40
theorem sep_an (rest : List UInt8) (h : sepOk rest) : ∀ c, rest.head? = some c → isAn c = false := fun c hc => by
  rcases h c hc with rfl | rfl | rfl | rfl | rfl <;> decide
theorem sep_hx (rest : List UInt8) (h : sepOk rest) : ∀ c, rest.head? = some c → isHx c = false := fun c hc => by
  rcases h c hc with rfl | rfl | rfl | rfl | rfl <;> decide
theorem resv_all : (resv.all fun x => !x.isEmpty && (x.take 1).all isLt && x.all isAn && decide (x.length ≤ 32) && x.all fun b => !isBl b && b != 40) = true := by decide +kernel
theorem lt_bl (c : UInt8) (h : isLt c = true) : isBl c = false ∧ c ≠ 40 ∧ isDg c = false := by
  unfold isLt at h
  unfold isBl isDg
  simp at h
  refine ⟨?_, ?_, ?_⟩
  · simp
    refine ⟨⟨⟨?_, ?_⟩, ?_⟩, ?_⟩ <;> (intro e; subst e; revert h; decide)
  · intro e; subst e; revert h; decide
  · simp; omega
theorem dg_bl (c : UInt8) (h : isDg c = true) : isBl c = false ∧ c ≠ 40 ∧ isLt c = false := by
  unfold isDg at h
  unfold isBl isLt
  simp at h
  refine ⟨?_, ?_, ?_⟩
  · simp
    refine ⟨⟨⟨?_, ?_⟩, ?_⟩, ?_⟩ <;> (intro e; subst e; revert h; decide)
  · intro e; subst e; revert h; decide
  · simp; omega
theorem take2_ne (c : UInt8) (r : List UInt8) (h : c ≠ 40) : (c :: r).take 2 ≠ [40, 42] := fun e => by
  cases r with
  | nil => simp at e
  | cons d r => simp at e; exact h e.1
/-- A step at a letter. -/
theorem stp_letter (c : UInt8) (r : List UInt8) (h : isLt c = true) : stp (c :: r) = if 32 < ((c :: r).takeWhile isAn).length then (none, 0, 5) else (some ⟨if wordB ((c :: r).takeWhile isAn) then 6 else 1, (c :: r).takeWhile isAn, 0⟩, ((c :: r).takeWhile isAn).length, 0) := by
  obtain ⟨h1, h2, h3⟩ := lt_bl c h
  unfold stp
  rw [show (c :: r).headD 0 = c from rfl, if_neg (by rw [h1]; decide), if_neg (take2_ne c r h2)]
  unfold oneL
  rw [show (c :: r).headD 0 = c from rfl, if_pos h]
/-- A step at a digit. -/
theorem stp_digit (c : UInt8) (r : List UInt8) (h : isDg c = true) : stp (c :: r) = match num (numS (c :: r)) with
    | some t => (some t, (numS (c :: r)).length, 0)
    | none => (none, 0, 41) := by
  obtain ⟨h1, h2, h3⟩ := dg_bl c h
  unfold stp
  rw [show (c :: r).headD 0 = c from rfl, if_neg (by rw [h1]; decide), if_neg (take2_ne c r h2)]
  unfold oneL
  rw [show (c :: r).headD 0 = c from rfl, if_neg (by rw [h3]; decide), if_pos h]
  all_goals (cases num (numS (c :: r)) <;> rfl)
/-- A step at a string's mark. -/
theorem stp_quote (c : UInt8) (r : List UInt8) (h : c = 34 ∨ c = 39) : stp (c :: r) = if (r.drop (strS c r).length).head? = some c then (some ⟨4, strS c r, 0⟩, (strS c r).length + 2, 0) else (none, 0, 42) := by
  have h1 : isBl c = false := by rcases h with rfl | rfl <;> decide
  have h2 : c ≠ 40 := by rcases h with rfl | rfl <;> decide
  have h3 : isLt c = false := by rcases h with rfl | rfl <;> decide
  have h4 : isDg c = false := by rcases h with rfl | rfl <;> decide
  unfold stp
  rw [show (c :: r).headD 0 = c from rfl, if_neg (by rw [h1]; decide), if_neg (take2_ne c r h2)]
  unfold oneL
  rw [show (c :: r).headD 0 = c from rfl, if_neg (by rw [h3]; decide), if_neg (by rw [h4]; decide), if_pos h]
  rfl
theorem letters_back (x rest : List UInt8) (hne : x ≠ []) (h1 : (x.take 1).all isLt = true) (h2 : x.all isAn = true) (h3 : x.length ≤ 32) (hs : sepOk rest) :
    stp (x ++ rest) = (some ⟨if wordB x then 6 else 1, x, 0⟩, x.length, 0) := by
  cases x with
  | nil => exact absurd rfl hne
  | cons c r =>
    have hc : isLt c = true := by simpa using h1
    have htw : ((c :: r) ++ rest).takeWhile isAn = c :: r := tw_app isAn (c :: r) rest (fun b hb => List.all_eq_true.1 h2 b hb) (sep_an rest hs)
    have e := stp_letter c (r ++ rest) hc
    rw [show c :: (r ++ rest) = (c :: r) ++ rest from rfl, htw, if_neg (by omega)] at e
    exact e
theorem name_back (t : T0) (hk : t.k = 1) (hx : nameB t.x = true) (hn : t.n = 0) (rest : List UInt8) (hs : sepOk rest) : stp (t.x ++ rest) = (some t, t.x.length, 0) := by
  unfold nameB at hx
  simp only [Bool.and_eq_true, Bool.not_eq_true', decide_eq_true_eq] at hx
  obtain ⟨⟨⟨⟨a1, a2⟩, a3⟩, a4⟩, a5⟩ := hx
  rw [letters_back t.x rest (fun e => by rw [e] at a1; simp at a1) a3 a5 a2 hs, a4]
  obtain ⟨k, x, n⟩ := t
  simp only at hk hn
  subst hk; subst hn; rfl
theorem word_back (t : T0) (hk : t.k = 6) (hx : wordB t.x = true) (hn : t.n = 0) (rest : List UInt8) (hs : sepOk rest) : stp (t.x ++ rest) = (some t, t.x.length, 0) := by
  have hm : t.x ∈ resv := by unfold wordB at hx; exact List.contains_iff_mem.1 hx
  have hall := List.all_eq_true.1 resv_all t.x hm
  simp only [Bool.and_eq_true, Bool.not_eq_true', decide_eq_true_eq] at hall
  obtain ⟨⟨⟨⟨a1, a2⟩, a3⟩, a4⟩, a5⟩ := hall
  rw [letters_back t.x rest (fun e => by rw [e] at a1; simp at a1) a2 a3 a4 hs, hx]
  obtain ⟨k, x, n⟩ := t
  simp only at hk hn
  subst hk; subst hn; rfl
theorem dig_hx (b : UInt8) (h : 48 ≤ b.toNat ∧ b.toNat ≤ 57) : isHx b = true ∧ 0 ≤ digV b ∧ digV b < 10 ∧ b ≠ 72 := by
  refine ⟨?_, ?_, ?_, ?_⟩
  · unfold isHx isDg; simp; omega
  · unfold digV; rw [if_neg (by omega)]; omega
  · unfold digV; rw [if_neg (by omega)]; omega
  · intro e; subst e; revert h; decide
theorem numS_back (u rest : List UInt8) (h : ∀ b ∈ u, isHx b = true) (hs : sepOk rest) : numS (u ++ rest) = u := by
  have e := tw_app isHx u rest h (sep_hx rest hs)
  unfold numS
  rw [e, if_neg]
  rw [List.drop_left]
  intro hh
  rcases hs 72 hh with k | k | k | k | k <;> exact absurd k (by decide)
theorem num_dec10 (u : Nat) (h : u ≤ 65535) : num (Lib.decDigits u) = some ⟨2, [], u⟩ := by
  obtain ⟨h1, h2, h3⟩ := dec_digs u
  unfold num
  have hlast : ∀ k : UInt8, (k.toNat < 48 ∨ 57 < k.toNat) → (Lib.decDigits u).getLast? ≠ some k := fun k hk e => by
    have := h1 k (List.mem_of_getLast? e)
    omega
  rw [if_neg (hlast 72 (by decide))]
  have hv : valS 10 65535 (Lib.decDigits u) = some (u : Int) := by
    unfold valS
    rw [if_neg h3]
    have := valL_ok 10 (by omega) 65535 (Lib.decDigits u) 0 (fun b hb => by have := dig_hx b (h1 b hb); exact ⟨this.2.1, this.2.2.1⟩) (by rw [h2]; omega)
    rw [h2] at this
    exact this
  rw [hv]
theorem num_back (t : T0) (hk : t.k = 2) (hx : t.x = []) (h0 : 0 ≤ t.n) (h1 : t.n ≤ 65535) (rest : List UInt8) (hs : sepOk rest) : stp (Lib.decDigits t.n.toNat ++ rest) = (some t, (Lib.decDigits t.n.toNat).length, 0) := by
  obtain ⟨d1, d2, d3⟩ := dec_digs t.n.toNat
  have e := numS_back (Lib.decDigits t.n.toNat) rest (fun b hb => (dig_hx b (d1 b hb)).1) hs
  have hn := num_dec10 t.n.toNat (by omega)
  have ht : (⟨2, [], ((t.n.toNat : Nat) : Int)⟩ : T0) = t := by
    obtain ⟨k, x, n⟩ := t
    simp only at hk hx h0 ⊢
    subst hk; subst hx
    rw [Int.toNat_of_nonneg h0]
  rw [ht] at hn
  cases hc : Lib.decDigits t.n.toNat with
  | nil => exact absurd hc d3
  | cons c r =>
    rw [hc] at e hn d1
    have hd : isDg c = true := by have := d1 c (by simp); unfold isDg; simp; omega
    have h := stp_digit c (r ++ rest) hd
    rw [show c :: (r ++ rest) = (c :: r) ++ rest from rfl, e, hn] at h
    exact h
theorem num_oct (u : Nat) (h : u ≤ 255) : num (octD u ++ [67]) = some ⟨3, [], u⟩ := by
  obtain ⟨h1, h2, h3⟩ := oct_digs u
  have hl : (octD u ++ [67]).getLast? = some (67 : UInt8) := by simp
  have hd : (octD u ++ [(67 : UInt8)]).dropLast = octD u := by simp
  unfold num
  rw [hl, hd, if_neg (by decide)]
  have hv : valS 10 65535 (octD u ++ [67]) = none := by
    unfold valS
    rw [if_neg (by simp)]
    exact valL_none 10 65535 _ 0 67 (by simp) (by decide)
  rw [hv]
  simp only
  rw [if_neg (by decide), if_pos trivial]
  have hv2 : valS 8 255 (octD u) = some (u : Int) := by
    unfold valS
    rw [if_neg h3]
    have := valL_ok 8 (by omega) 255 (octD u) 0 (fun b hb => by
      have hb := h1 b hb
      unfold digV; rw [if_neg (by omega)]; omega) (by rw [h2]; omega)
    rw [h2] at this
    exact this
  rw [hv2]; rfl
theorem char_back (t : T0) (hk : t.k = 3) (hx : t.x = []) (h0 : 0 ≤ t.n) (h1 : t.n ≤ 255) (rest : List UInt8) (hs : sepOk rest) : stp ((octD t.n.toNat ++ [67]) ++ rest) = (some t, (octD t.n.toNat ++ [67]).length, 0) := by
  obtain ⟨d1, d2, d3⟩ := oct_digs t.n.toNat
  have e := numS_back (octD t.n.toNat ++ [67]) rest (fun b hb => by
    rcases List.mem_append.1 hb with hb | hb
    · exact (dig_hx b (by have := d1 b hb; omega)).1
    · rw [List.mem_singleton] at hb; subst hb; decide) hs
  have hn := num_oct t.n.toNat (by omega)
  have ht : (⟨3, [], ((t.n.toNat : Nat) : Int)⟩ : T0) = t := by
    obtain ⟨k, x, n⟩ := t
    simp only at hk hx h0 ⊢
    subst hk; subst hx
    rw [Int.toNat_of_nonneg h0]
  rw [ht] at hn
  cases hc : octD t.n.toNat with
  | nil => exact absurd hc d3
  | cons c r =>
    rw [hc] at e hn d1
    have hd : isDg c = true := by have := d1 c (by simp); unfold isDg; simp; omega
    have h := stp_digit c ((r ++ [67]) ++ rest) hd
    rw [show c :: ((r ++ [67]) ++ rest) = ((c :: r) ++ [67]) ++ rest by simp, e, hn] at h
    exact h
theorem quote_back (c : UInt8) (hc : c = 34 ∨ c = 39) (x rest : List UInt8) (h1 : ∀ b ∈ x, b ≠ 10) (h2 : x.contains c = false) : stp ((c :: (x ++ [c])) ++ rest) = (some ⟨4, x, 0⟩, x.length + 2, 0) := by
  have hx : strS c ((x ++ [c]) ++ rest) = x := by
    unfold strS
    rw [List.append_assoc]
    refine tw_app _ x ([c] ++ rest) (fun b hb => ?_) (fun b hb => ?_)
    · have n1 := h1 b hb
      have n2 : b ≠ c := fun e => by
        subst e
        have := List.contains_iff_mem.2 hb
        rw [h2] at this; cases this
      simp [n1, n2]
    · have : c = b := by simpa using hb
      subst this; simp
  have h := stp_quote c ((x ++ [c]) ++ rest) hc
  rw [hx, if_pos (by rw [List.append_assoc, List.drop_left]; rfl)] at h
  exact h
theorem str_back (t : T0) (hk : t.k = 4) (hn : t.n = 0) (h1 : ∀ b ∈ t.x, b ≠ 10) (h2 : t.x.contains 34 = true → t.x.contains 39 = false) (rest : List UInt8) :
    stp ((if t.x.contains 34 then 39 :: (t.x ++ [39]) else 34 :: (t.x ++ [34])) ++ rest) = (some t, (if t.x.contains 34 then 39 :: (t.x ++ [39]) else 34 :: (t.x ++ [34])).length, 0) := by
  have ht : (⟨4, t.x, 0⟩ : T0) = t := by
    obtain ⟨k, x, n⟩ := t
    simp only at hk hn ⊢
    subst hk; subst hn; rfl
  cases h : t.x.contains 34
  · rw [if_neg (by decide), quote_back 34 (.inl rfl) t.x rest h1 h, ht]
    simp
  · rw [if_pos rfl, quote_back 39 (.inr rfl) t.x rest h1 (h2 h), ht]
    simp
end Go.Proofs.YtggembknccbpnaaGreat
/- Layer 4 by plain functions: a step gives a token that is read back. No program stands in here. -/
namespace Go.Proofs.YtggembknccbpnaaGreat
open Go
set_option linter.unusedVariables false
set_option maxRecDepth 10000

theorem sym_back (t : T0) (hk : t.k = 5) (hn : t.n = 0) (hx : symsP.contains t.x = true) (rest : List UInt8) (hs : sepOk rest) : stp (t.x ++ rest) = (some t, t.x.length, 0) := by
  obtain ⟨k, x, n⟩ := t
  simp only at hk hn hx ⊢
  subst hk; subst hn
  have hm : x ∈ symsP := List.contains_iff_mem.1 hx
  clear hx
  unfold symsP at hm
  simp only [List.mem_cons, List.not_mem_nil, or_false] at hm
  rcases hm with rfl | rfl | rfl | rfl | rfl | rfl | rfl | rfl | rfl | rfl | rfl | rfl | rfl | rfl | rfl | rfl | rfl | rfl | rfl | rfl | rfl | rfl | rfl | rfl
  all_goals
    cases rest with
    | nil => (apply Eq.symm; kernel_rfl)
    | cons c r => rcases hs c rfl with rfl | rfl | rfl | rfl | rfl <;> (apply Eq.symm; kernel_rfl)
/-- A token that is written is read back, whatever blank stands behind it. -/
theorem resc (t : T0) (h : tokOk t) (rest : List UInt8) (hs : sepOk rest) : stp (txtT t ++ rest) = (some t, (txtT t).length, 0) := by
  unfold txtT
  rcases h with ⟨hk, h1, h2⟩ | ⟨hk, h1, h2⟩ | ⟨hk, h1, h2, h3⟩ | ⟨hk, h1, h2, h3⟩ | ⟨hk, h1, h2, h3⟩ | ⟨hk, h1, h2⟩
  · rw [if_neg (by omega), if_neg (by omega), if_neg (by omega)]; exact name_back t hk h1 h2 rest hs
  · rw [if_neg (by omega), if_neg (by omega), if_neg (by omega)]; exact word_back t hk h1 h2 rest hs
  · rw [if_pos hk]; exact num_back t hk h1 h2 h3 rest hs
  · rw [if_neg (by omega), if_pos hk]; exact char_back t hk h1 h2 h3 rest hs
  · rw [if_neg (by omega), if_neg (by omega), if_pos hk]; exact str_back t hk h1 h2 h3 rest
  · rw [if_neg (by omega), if_neg (by omega), if_neg (by omega)]; exact sym_back t hk h1 h2 rest hs
theorem hx_pos (b : UInt8) (h : isHx b = true) : 0 ≤ digV b := by
  unfold isHx isDg at h
  unfold digV
  simp at h
  split <;> omega
theorem pow_1610 (m : Nat) : 16 ^ m ≤ 10 ^ (2 * m) := by
  rw [Nat.pow_mul]
  exact Nat.pow_le_pow_left (by omega) m
theorem dec_fit (base : Nat) (hb : 1 ≤ base) (hb2 : base ≤ 16) (s : List UInt8) (hs : s ≠ []) (hd : ∀ b ∈ s, digV b < base) : (Lib.decDigits (vOf base 0 s)).length ≤ 2 * s.length := by
  have h1 := vOf_lt base hb s 0 1 hd (by omega)
  rw [Nat.one_mul] at h1
  have h2 : base ^ s.length ≤ 16 ^ s.length := Nat.pow_le_pow_left hb2 _
  have h3 := pow_1610 s.length
  have hl : 1 ≤ s.length := by
    cases s with
    | nil => exact absurd rfl hs
    | cons c r => simp
  have := dec_short10 (2 * s.length - 1) (vOf base 0 s) (by rw [show 2 * s.length - 1 + 1 = 2 * s.length by omega]; omega)
  omega
theorem oct_fit (s : List UInt8) (hs : s ≠ []) (hd : ∀ b ∈ s, digV b < 8) : (octD (vOf 8 0 s)).length ≤ s.length := by
  have h1 := vOf_lt 8 (by omega) s 0 1 hd (by omega)
  rw [Nat.one_mul] at h1
  have hl : 1 ≤ s.length := by
    cases s with
    | nil => exact absurd rfl hs
    | cons c r => simp
  have := oct_short8 (s.length - 1) (vOf 8 0 s) (by rw [show s.length - 1 + 1 = s.length by omega]; exact h1)
  omega
theorem valS_inv (base : Nat) (most : Int) (s : List UInt8) (n : Int) (h0 : ∀ b ∈ s, 0 ≤ digV b) (h : valS base most s = some n) : s ≠ [] ∧ (∀ b ∈ s, digV b < base) ∧ n = ((vOf base 0 s : Nat) : Int) ∧ n ≤ most := by
  unfold valS at h
  split at h
  · cases h
  · rename_i hne
    obtain ⟨a, b, c⟩ := valL_inv base most s 0 n h0 h
    exact ⟨hne, a, b, c⟩
/-- What a number's letters may be. -/
theorem num_inv (s : List UInt8) (t : T0) (h0 : ∀ b ∈ s, 0 ≤ digV b) (h : num s = some t) : tokOk t ∧ (txtT t).length ≤ 2 * s.length := by
  have hdl : s.dropLast.length ≤ s.length - 1 := by rw [List.length_dropLast]; omega
  have hd0 : ∀ b ∈ s.dropLast, 0 ≤ digV b := fun b hb => h0 b (List.dropLast_subset s hb)
  have two : ∀ (base : Nat) (v : List UInt8) (n : Int), 1 ≤ base → base ≤ 16 → v.length ≤ s.length → (∀ b ∈ v, 0 ≤ digV b) → valS base 65535 v = some n → t = ⟨2, [], n⟩ → tokOk t ∧ (txtT t).length ≤ 2 * s.length := by
    intro base v n hb1 hb2 hl hv hh ht
    obtain ⟨hne, a1, a2, a3⟩ := valS_inv base 65535 v n hv hh
    subst ht
    refine ⟨.inr (.inr (.inl ⟨rfl, rfl, by rw [a2]; exact Int.natCast_nonneg _, a3⟩)), ?_⟩
    show (Lib.decDigits n.toNat).length ≤ _
    have := dec_fit base hb1 hb2 v hne a1
    rw [a2, Int.toNat_natCast]; omega
  unfold num at h
  split at h
  · cases hh : valS 16 65535 s.dropLast with
    | none => rw [hh] at h; cases h
    | some n =>
      rw [hh] at h
      exact two 16 s.dropLast n (by omega) (by omega) (by omega) hd0 hh (by injection h with h; exact h.symm)
  · cases hh : valS 10 65535 s with
    | some n =>
      rw [hh] at h
      exact two 10 s n (by omega) (by omega) (by omega) h0 hh (by injection h with h; exact h.symm)
    | none =>
      rw [hh] at h
      simp only at h
      split at h
      · cases hh : valS 8 65535 s.dropLast with
        | none => rw [hh] at h; cases h
        | some n =>
          rw [hh] at h
          exact two 8 s.dropLast n (by omega) (by omega) (by omega) hd0 hh (by injection h with h; exact h.symm)
      · split at h
        · cases hh : valS 8 255 s.dropLast with
          | none => rw [hh] at h; cases h
          | some n =>
            rw [hh] at h
            obtain ⟨hne, a1, a2, a3⟩ := valS_inv 8 255 s.dropLast n hd0 hh
            have ht : t = ⟨3, [], n⟩ := by injection h with h; exact h.symm
            subst ht
            refine ⟨.inr (.inr (.inr (.inl ⟨rfl, rfl, by rw [a2]; exact Int.natCast_nonneg _, a3⟩))), ?_⟩
            show (octD n.toNat ++ [67]).length ≤ _
            have := oct_fit s.dropLast hne a1
            have hl : 1 ≤ s.dropLast.length := by
              cases hq : s.dropLast with
              | nil => exact absurd hq hne
              | cons c r => simp
            rw [a2, Int.toNat_natCast, List.length_append]
            simp; omega
        · cases h
/-- A step at any other byte. -/
theorem stp_other (c : UInt8) (r : List UInt8) (h1 : isBl c = false) (h2 : (c :: r).take 2 ≠ [40, 42]) (h3 : isLt c = false) (h4 : isDg c = false) (h5 : ¬ (c = 34 ∨ c = 39)) :
    stp (c :: r) = if symb (c :: r) = 0 then (none, 0, 40) else (some (plainT ((c :: r).take (symb (c :: r)))), symb (c :: r), 0) := by
  unfold stp
  rw [show (c :: r).headD 0 = c from rfl, if_neg (by rw [h1]; decide), if_neg h2]
  unfold oneL
  rw [show (c :: r).headD 0 = c from rfl, if_neg (by rw [h3]; decide), if_neg (by rw [h4]; decide), if_neg h5]
theorem numS_len (s : List UInt8) : (numS s).length ≤ s.length ∧ ∀ b ∈ numS s, 0 ≤ digV b := by
  have h1 := tw_len isHx s
  unfold numS
  split
  · rename_i h
    have : (s.takeWhile isHx).length < s.length := by
      rcases Nat.lt_or_ge (s.takeWhile isHx).length s.length with k | k
      · exact k
      · rw [List.drop_of_length_le k] at h; cases h
    refine ⟨by simp; omega, fun b hb => ?_⟩
    rcases List.mem_append.1 hb with hb | hb
    · exact hx_pos b (tw_all isHx s b hb)
    · rw [List.mem_singleton] at hb; subst hb; decide
  · exact ⟨h1, fun b hb => hx_pos b (tw_all isHx s b hb)⟩
theorem numS_pos (c : UInt8) (r : List UInt8) (h : isDg c = true) : 1 ≤ (numS (c :: r)).length := by
  have : 1 ≤ ((c :: r).takeWhile isHx).length := by
    rw [List.takeWhile_cons, if_pos (by unfold isHx; rw [h]; rfl)]; simp
  unfold numS
  split
  · simp
  · exact this
theorem sym_cases (c : UInt8) (r : List UInt8) (h : symb (c :: r) ≠ 0) : tokOk (plainT ((c :: r).take (symb (c :: r)))) ∧ 1 ≤ symb (c :: r) ∧ symb (c :: r) ≤ (c :: r).length ∧ (txtT (plainT ((c :: r).take (symb (c :: r))))).length ≤ 3 * symb (c :: r) := by
  unfold symb at h ⊢
  by_cases h2 : syms2.contains ((c :: r).take 2) = true
  · rw [if_pos h2]
    have hm : (c :: r).take 2 ∈ syms2 := List.contains_iff_mem.1 h2
    have hl : 2 ≤ (c :: r).length := by
      have : ((c :: r).take 2).length = 2 := by
        unfold syms2 at hm
        simp only [List.mem_cons, List.not_mem_nil, or_false] at hm
        rcases hm with h | h | h | h | h <;> (rw [h]; rfl)
      rw [List.length_take] at this; omega
    refine ⟨?_, by omega, hl, ?_⟩
    · unfold syms2 at hm
      simp only [List.mem_cons, List.not_mem_nil, or_false] at hm
      rcases hm with h | h | h | h | h <;> (rw [h]; exact .inr (.inr (.inr (.inr (.inr ⟨rfl, rfl, by decide⟩)))))
    · unfold syms2 at hm
      simp only [List.mem_cons, List.not_mem_nil, or_false] at hm
      rcases hm with h | h | h | h | h <;> (rw [h]; decide)
  · rw [if_neg h2] at h ⊢
    by_cases h1 : syms1.contains ((c :: r).headD 0) = true
    · rw [if_pos h1]
      have hm : c ∈ syms1 := List.contains_iff_mem.1 h1
      refine ⟨?_, by omega, by simp, ?_⟩
      · show tokOk (plainT [c])
        unfold syms1 at hm
        simp only [List.mem_cons, List.not_mem_nil, or_false] at hm
        rcases hm with rfl | rfl | rfl | rfl | rfl | rfl | rfl | rfl | rfl | rfl | rfl | rfl | rfl | rfl | rfl | rfl | rfl | rfl | rfl | rfl | rfl | rfl
        all_goals first | exact .inr (.inr (.inr (.inr (.inr ⟨rfl, rfl, by decide⟩)))) | exact .inr (.inl ⟨rfl, by decide, rfl⟩)
      · show (txtT (plainT [c])).length ≤ 3
        unfold syms1 at hm
        simp only [List.mem_cons, List.not_mem_nil, or_false] at hm
        rcases hm with rfl | rfl | rfl | rfl | rfl | rfl | rfl | rfl | rfl | rfl | rfl | rfl | rfl | rfl | rfl | rfl | rfl | rfl | rfl | rfl | rfl | rfl
        all_goals decide
    · rw [if_neg h1] at h; exact absurd rfl h
/-- WHAT A STEP GIVES: a token that may be, of at least a byte, whose text is at most three times as long. -/
theorem stp_ok (s : List UInt8) (hs : s ≠ []) (t : T0) (n : Nat) (e : Int) (h : stp s = (some t, n, e)) : tokOk t ∧ 1 ≤ n ∧ n ≤ s.length ∧ (txtT t).length ≤ 3 * n ∧ e = 0 := by
  cases s with
  | nil => exact absurd rfl hs
  | cons c r =>
    by_cases h3 : isLt c = true
    · rw [stp_letter c r h3] at h
      split at h
      · cases h
      · rename_i hl
        injection h with ha hb
        injection ha with ha
        injection hb with hb hc
        subst ha; subst hb
        have hall := tw_all isAn (c :: r)
        have hle := tw_len isAn (c :: r)
        have hx : (c :: r).takeWhile isAn = c :: r.takeWhile isAn := by rw [List.takeWhile_cons, if_pos (by unfold isAn; rw [h3]; rfl)]
        have hp : 1 ≤ ((c :: r).takeWhile isAn).length := by rw [hx]; simp
        refine ⟨?_, hp, hle, ?_, hc.symm⟩
        · cases hw : wordB ((c :: r).takeWhile isAn)
          · refine .inl ⟨rfl, ?_, rfl⟩
            unfold nameB
            rw [hw]
            simp only [Bool.and_eq_true, Bool.not_eq_true', decide_eq_true_eq]
            exact ⟨⟨⟨⟨by rw [hx]; rfl, by omega⟩, by rw [hx]; simpa using h3⟩, trivial⟩, List.all_eq_true.2 hall⟩
          · exact .inr (.inl ⟨rfl, hw, rfl⟩)
        · have : txtT ⟨if wordB ((c :: r).takeWhile isAn) = true then 6 else 1, (c :: r).takeWhile isAn, 0⟩ = (c :: r).takeWhile isAn := by
            unfold txtT
            cases wordB ((c :: r).takeWhile isAn) <;> rfl
          rw [this]; omega
    · have h3' : isLt c = false := by simpa using h3
      by_cases h4 : isDg c = true
      · rw [stp_digit c r h4] at h
        cases hn : num (numS (c :: r)) with
        | none => rw [hn] at h; cases h
        | some t' =>
          rw [hn] at h
          injection h with ha hb
          injection ha with ha
          injection hb with hb hc
          subst ha; subst hb
          obtain ⟨l1, l2⟩ := numS_len (c :: r)
          obtain ⟨k1, k2⟩ := num_inv _ _ l2 hn
          have := numS_pos c r h4
          exact ⟨k1, this, l1, by omega, hc.symm⟩
      · have h4' : isDg c = false := by simpa using h4
        by_cases h5 : c = 34 ∨ c = 39
        · rw [stp_quote c r h5] at h
          split at h
          · rename_i hq
            injection h with ha hb
            injection ha with ha
            injection hb with hb hc
            subst ha; subst hb
            have hall := tw_all (fun b => b != c && b != 10) r
            have hle : (strS c r).length < r.length := by
              rcases Nat.lt_or_ge (strS c r).length r.length with k | k
              · exact k
              · rw [List.drop_of_length_le k] at hq; cases hq
            have hno : ∀ b ∈ strS c r, b ≠ c ∧ b ≠ 10 := fun b hb => by
              have := hall b hb
              simpa using this
            refine ⟨.inr (.inr (.inr (.inr (.inl ⟨rfl, rfl, fun b hb => (hno b hb).2, fun h34 => ?_⟩)))), by omega, by simp; omega, ?_, hc.symm⟩
            · rcases h5 with rfl | rfl
              · exact absurd rfl (hno 34 (List.contains_iff_mem.1 h34)).1
              · cases h39 : (strS 39 r).contains 39
                · rfl
                · exact absurd rfl (hno 39 (List.contains_iff_mem.1 h39)).1
            · show (if (strS c r).contains 34 then 39 :: (strS c r ++ [39]) else 34 :: (strS c r ++ [34])).length ≤ _
              split <;> (simp; omega)
          · cases h
        · by_cases h1 : isBl c = true
          · unfold stp at h
            rw [show (c :: r).headD 0 = c from rfl, if_pos h1] at h
            cases h
          · have h1' : isBl c = false := by simpa using h1
            by_cases h2 : (c :: r).take 2 = [40, 42]
            · unfold stp at h
              rw [show (c :: r).headD 0 = c from rfl, if_neg h1, if_pos h2] at h
              cases hq : cmt 0 (c :: r) with
              | none => rw [hq] at h; cases h
              | some m => rw [hq] at h; cases h
            · rw [stp_other c r h1' h2 h3' h4' h5] at h
              split at h
              · cases h
              · rename_i h0
                injection h with ha hb
                injection ha with ha
                injection hb with hb hc
                subst ha; subst hb
                obtain ⟨k1, k2, k3, k4⟩ := sym_cases c r h0
                exact ⟨k1, k2, k3, k4, hc.symm⟩
end Go.Proofs.YtggembknccbpnaaGreat
/- Layer 4 by plain functions: scanning. No program stands in here. -/
namespace Go.Proofs.YtggembknccbpnaaGreat
open Go
set_option linter.unusedVariables false
set_option maxRecDepth 10000

theorem oneL_none (s : List UInt8) (n : Nat) (e : Int) (h : oneL s = (none, n, e)) : e ≠ 0 := by
  unfold oneL at h
  split at h
  · split at h
    · injection h with _ h; injection h with _ h; omega
    · cases h
  · split at h
    · split at h
      · cases h
      · injection h with _ h; injection h with _ h; omega
    · split at h
      · split at h
        · cases h
        · injection h with _ h; injection h with _ h; omega
      · split at h
        · injection h with _ h; injection h with _ h; omega
        · cases h
theorem stp_skip (s : List UInt8) (hs : s ≠ []) (n : Nat) (h : stp s = (none, n, 0)) : 1 ≤ n ∧ n ≤ s.length := by
  have hl : 1 ≤ s.length := by
    cases s with
    | nil => exact absurd rfl hs
    | cons c r => simp
  unfold stp at h
  split at h
  · injection h with _ h; injection h with h _; omega
  · split at h
    · cases hq : cmt 0 s with
      | none => rw [hq] at h; injection h with _ h; injection h with _ h; omega
      | some m =>
        rw [hq] at h
        injection h with _ h; injection h with h _
        have := cmt_bd s 0 m hq
        omega
    · exact absurd rfl (oneL_none s n 0 h)
theorem scanO_fuel : ∀ (f : Nat) (s : List UInt8) (off : Nat), s.length ≤ f → scanO f off s = scanO s.length off s
  | 0, s, off, h => by rw [show s.length = 0 by omega]
  | f + 1, [], off, h => rfl
  | f + 1, c :: r, off, h => by
    have hne : (c :: r) ≠ [] := by simp
    have hr : r.length ≤ f := by simpa using h
    rw [show (c :: r).length = r.length + 1 from rfl]
    rw [scanO, scanO, if_neg hne, if_neg hne]
    have hd : ∀ n, 1 ≤ n → ((c :: r).drop n).length ≤ r.length := fun n hn => by rw [List.length_drop]; simp; omega
    rcases hq : stp (c :: r) with ⟨o, n, e⟩
    cases o with
    | some t =>
      obtain ⟨_, h1, h2, _⟩ := stp_ok _ hne t n e hq
      simp only
      rw [scanO_fuel f _ _ (Nat.le_trans (hd n h1) hr), scanO_fuel r.length _ _ (hd n h1)]
    | none =>
      simp only
      by_cases he : e = 0
      · subst he
        obtain ⟨h1, h2⟩ := stp_skip _ hne n hq
        rw [if_pos rfl, if_pos rfl, scanO_fuel f _ _ (Nat.le_trans (hd n h1) hr), scanO_fuel r.length _ _ (hd n h1)]
      · rw [if_neg he, if_neg he]
theorem scanS_nil (off : Nat) : scanS off [] = ([], off, 0) := rfl
theorem scan_unf (off : Nat) (s : List UInt8) (hs : s ≠ []) : scanS off s = match stp s with
    | (some t, n, _) => ((t, off, off + n) :: (scanO (s.length - 1) (off + n) (s.drop n)).1, (scanO (s.length - 1) (off + n) (s.drop n)).2)
    | (none, n, e) => if e = 0 then scanO (s.length - 1) (off + n) (s.drop n) else ([], off, e) := by
  cases s with
  | nil => exact absurd rfl hs
  | cons c r =>
    unfold scanS
    rw [show (c :: r).length = r.length + 1 from rfl, scanO, if_neg hs]
    rfl
theorem scanS_tok (off : Nat) (s : List UInt8) (hs : s ≠ []) (t : T0) (n : Nat) (e : Int) (h : stp s = (some t, n, e)) : scanS off s = ((t, off, off + n) :: (scanS (off + n) (s.drop n)).1, (scanS (off + n) (s.drop n)).2) := by
  obtain ⟨_, h1, h2, _⟩ := stp_ok s hs t n e h
  rw [scan_unf off s hs, h]
  simp only
  rw [scanO_fuel (s.length - 1) (s.drop n) (off + n) (by rw [List.length_drop]; omega)]
  rfl
theorem scanS_skip (off : Nat) (s : List UInt8) (hs : s ≠ []) (n : Nat) (h : stp s = (none, n, 0)) : scanS off s = scanS (off + n) (s.drop n) := by
  obtain ⟨h1, h2⟩ := stp_skip s hs n h
  rw [scan_unf off s hs, h]
  simp only
  rw [if_pos trivial, scanO_fuel (s.length - 1) (s.drop n) (off + n) (by rw [List.length_drop]; omega)]
  rfl
theorem scanS_err (off : Nat) (s : List UInt8) (hs : s ≠ []) (n : Nat) (e : Int) (he : e ≠ 0) (h : stp s = (none, n, e)) : scanS off s = ([], off, e) := by
  rw [scan_unf off s hs, h]
  simp only
  rw [if_neg he]
/-- Tokens stand one behind the other. -/
def chainO : Nat → List (T0 × Nat × Nat) → Nat → Prop
  | a, [], b => a ≤ b
  | a, (t, x, y) :: r, b => a ≤ x ∧ x < y ∧ chainO y r b
/-- WHAT SCANNING GIVES. -/
theorem scan_ok : ∀ (m : Nat) (s : List UInt8) (off : Nat), s.length ≤ m →
    (∀ x ∈ (scanS off s).1, tokOk x.1) ∧ off ≤ (scanS off s).2.1 ∧ (scanS off s).2.1 ≤ off + s.length ∧ ((scanS off s).2.2 = 0 → (scanS off s).2.1 = off + s.length) ∧ ((scanS off s).2.2 ≠ 0 → (scanS off s).2.1 < off + s.length) ∧
    chainO off (scanS off s).1 (scanS off s).2.1 ∧ (joinT ((scanS off s).1.map (·.1))).length ≤ 4 * s.length ∧ ((scanS off s).1 ≠ [] → (joinT ((scanS off s).1.map (·.1))).length + 1 ≤ 4 * s.length)
  | _, [], off, _ => by
    rw [scanS_nil]
    exact ⟨fun x hx => by simp at hx, Nat.le_refl _, by simp, fun _ => by simp, fun h => absurd rfl h, Nat.le_refl _, by simp [joinT], fun h => absurd rfl h⟩
  | 0, c :: r, off, h => by simp at h
  | m + 1, c :: r, off, h => by
    have hne : (c :: r) ≠ [] := by simp
    have hc : (c :: r).length = r.length + 1 := rfl
    rcases hq : stp (c :: r) with ⟨o, n, e⟩
    cases o with
    | some t =>
      obtain ⟨k0, k1, k2, k3, k4⟩ := stp_ok _ hne t n e hq
      have hl : ((c :: r).drop n).length = (c :: r).length - n := List.length_drop
      obtain ⟨i1, i2, i3, i4, i5, i6, i7, i8⟩ := scan_ok m ((c :: r).drop n) (off + n) (by omega)
      rw [scanS_tok off _ hne t n e hq]
      generalize scanS (off + n) ((c :: r).drop n) = R at *
      refine ⟨fun x hx => ?_, by simp only; omega, by simp only; omega, fun he => by have := i4 he; simp only; omega, fun he => by have := i5 he; simp only; omega, ⟨Nat.le_refl _, by omega, i6⟩, ?_, fun _ => ?_⟩
      · rcases List.mem_cons.1 hx with rfl | hx
        · exact k0
        · exact i1 x hx
      all_goals
        simp only [List.map_cons, joinT]
        split
        · omega
        · rename_i hz
          have := i8 (fun hz2 => hz (by rw [hz2]; rfl))
          simp
          omega
    | none =>
      by_cases he : e = 0
      · subst he
        obtain ⟨k1, k2⟩ := stp_skip _ hne n hq
        have hl : ((c :: r).drop n).length = (c :: r).length - n := List.length_drop
        obtain ⟨i1, i2, i3, i4, i5, i6, i7, i8⟩ := scan_ok m ((c :: r).drop n) (off + n) (by omega)
        rw [scanS_skip off _ hne n hq]
        generalize scanS (off + n) ((c :: r).drop n) = R at *
        refine ⟨i1, by omega, by omega, fun he => by have := i4 he; omega, fun he => by have := i5 he; omega, ?_, by omega, fun h => by have := i8 h; omega⟩
        cases hR : R.1 with
        | nil => rw [hR] at i6; have : off + n ≤ R.2.1 := i6; show off ≤ R.2.1; omega
        | cons x l => rw [hR] at i6; obtain ⟨t, a, b⟩ := x; exact ⟨by have := i6.1; omega, i6.2⟩
      · rw [scanS_err off _ hne n e he hq]
        exact ⟨fun x hx => by simp at hx, Nat.le_refl _, by simp only; omega, fun h => absurd h he, fun _ => by simp, Nat.le_refl _, by simp [joinT], fun h => absurd rfl h⟩
/-- JOINED TOKENS ARE SCANNED AS THEMSELVES. -/
theorem join_back : ∀ (l : List T0) (off : Nat), (∀ t ∈ l, tokOk t) → (scanS off (joinT l)).1.map (·.1) = l ∧ (scanS off (joinT l)).2.2 = 0
  | [], off, _ => ⟨rfl, rfl⟩
  | t :: r, off, h => by
    have ht := h t (by simp)
    have hr := fun x hx => h x (List.mem_cons_of_mem t hx)
    by_cases hz : r = []
    · subst hz
      have e : joinT [t] = txtT t ++ [] := by simp [joinT]
      have hb := resc t ht [] (fun c hc => by simp at hc)
      have hne : txtT t ++ [] ≠ [] := fun k => by
        have : (stp []).1 = none := rfl
        rw [k] at hb
        rw [hb] at this; cases this
      rw [e, scanS_tok off _ hne t _ _ hb, List.drop_left, scanS_nil]
      exact ⟨rfl, rfl⟩
    · have e : joinT (t :: r) = txtT t ++ 32 :: joinT r := by simp [joinT, hz]
      have hb := resc t ht (32 :: joinT r) (fun c hc => .inr (.inr (.inr (.inl (Option.some.inj hc).symm))))
      have hs : stp (32 :: joinT r) = (none, 1, 0) := rfl
      rw [e, scanS_tok off _ (by simp) t _ _ hb, List.drop_left, scanS_skip _ _ (by simp) 1 hs]
      obtain ⟨i1, i2⟩ := join_back r (off + (txtT t).length + 1) hr
      rw [show (32 :: joinT r).drop 1 = joinT r from rfl]
      simp only [List.map_cons, i1]
      exact ⟨trivial, i2⟩
end Go.Proofs.YtggembknccbpnaaGreat
/- Layer 4 by plain functions: blanks between, what stands behind an error, numbers in all ways. No program stands in here. -/
namespace Go.Proofs.YtggembknccbpnaaGreat
open Go
set_option linter.unusedVariables false
set_option maxRecDepth 10000

/-- What is put between tokens. -/
def sepsL : List (List UInt8) := [[32], [10], [9, 13], [40, 42, 42, 41], [40, 42, 32, 97, 32, 40, 42, 32, 98, 32, 42, 41, 32, 10, 32, 99, 32, 42, 41], [32, 40, 42, 39, 42, 41, 32]]
theorem stp_cmt (s : List UInt8) (n : Nat) (h0 : isBl (s.headD 0) = false) (h : s.take 2 = [40, 42]) (hc : cmt 0 s = some n) : stp s = (none, n, 0) := by
  unfold stp
  rw [if_neg (by rw [h0]; decide), if_pos h, hc]
theorem sep_scan (q : List UInt8) (hq : q ∈ sepsL) (rest : List UInt8) (off : Nat) : sepOk (q ++ rest) ∧ scanS off (q ++ rest) = scanS (off + q.length) rest := by
  have one : ∀ (b : UInt8) (r : List UInt8) (o : Nat), isBl b = true → scanS o (b :: r) = scanS (o + 1) r := fun b r o hb => by
    have := scanS_skip o (b :: r) (by simp) 1 (by unfold stp; rw [show (b :: r).headD 0 = b from rfl, if_pos hb])
    exact this
  have com : ∀ (k r : List UInt8) (o : Nat), k.take 2 = [40, 42] → 2 ≤ k.length → cmt 0 k = some k.length → scanS o (k ++ r) = scanS (o + k.length) r := fun k r o h1 h2 h3 => by
    have hh : k.headD 0 = 40 := by
      cases k with
      | nil => simp at h2
      | cons c l => cases l with
        | nil => simp at h2
        | cons d l => simp at h1; exact h1.1
    have hne : k ++ r ≠ [] := fun e => by simp at e; rw [e.1] at h2; simp at h2
    have hhd : (k ++ r).headD 0 = 40 := by
      cases k with
      | nil => simp at h2
      | cons c l => exact hh
    have ht : (k ++ r).take 2 = [40, 42] := by rw [List.take_append_of_le_length h2]; exact h1
    have := scanS_skip o (k ++ r) hne k.length (stp_cmt _ _ (by rw [hhd]; rfl) ht (cmt_more k r 0 _ h3))
    rw [List.drop_left] at this
    exact this
  unfold sepsL at hq
  simp only [List.mem_cons, List.not_mem_nil, or_false] at hq
  rcases hq with rfl | rfl | rfl | rfl | rfl | rfl
  · exact ⟨fun c hc => .inr (.inr (.inr (.inl (Option.some.inj hc).symm))), one 32 rest off rfl⟩
  · exact ⟨fun c hc => .inr (.inl (Option.some.inj hc).symm), one 10 rest off rfl⟩
  · refine ⟨fun c hc => .inl (Option.some.inj hc).symm, ?_⟩
    show scanS off (9 :: 13 :: rest) = _
    rw [one 9 (13 :: rest) off rfl, one 13 rest (off + 1) rfl]; rfl
  · exact ⟨fun c hc => .inr (.inr (.inr (.inr (Option.some.inj hc).symm))), com [40, 42, 42, 41] rest off rfl (by decide) (by decide)⟩
  · exact ⟨fun c hc => .inr (.inr (.inr (.inr (Option.some.inj hc).symm))), com _ rest off rfl (by decide) (by decide)⟩
  · refine ⟨fun c hc => .inr (.inr (.inr (.inl (Option.some.inj hc).symm))), ?_⟩
    show scanS off (32 :: ([40, 42, 39, 42, 41] ++ 32 :: rest)) = _
    rw [one 32 _ off rfl, com [40, 42, 39, 42, 41] (32 :: rest) (off + 1) rfl (by decide) (by decide), one 32 rest _ rfl]; rfl
/-- Tokens, each with what is put behind it. -/
def blT : List (T0 × List UInt8) → List UInt8
  | [] => []
  | x :: r => txtT x.1 ++ (x.2 ++ blT r)
theorem blanks_back : ∀ (l : List (T0 × List UInt8)) (off : Nat), (∀ x ∈ l, tokOk x.1 ∧ x.2 ∈ sepsL) → (scanS off (blT l)).1.map (·.1) = l.map (·.1) ∧ (scanS off (blT l)).2.2 = 0
  | [], off, _ => ⟨rfl, rfl⟩
  | x :: r, off, h => by
    obtain ⟨h1, h2⟩ := h x (by simp)
    obtain ⟨s1, s2⟩ := sep_scan x.2 h2 (blT r) (off + (txtT x.1).length)
    have hb := resc x.1 h1 (x.2 ++ blT r) s1
    have hne : txtT x.1 ++ (x.2 ++ blT r) ≠ [] := fun k => by
      have : (stp []).1 = none := rfl
      rw [k] at hb
      rw [hb] at this; cases this
    obtain ⟨i1, i2⟩ := blanks_back r (off + (txtT x.1).length + x.2.length) (fun y hy => h y (List.mem_cons_of_mem x hy))
    show (scanS off (txtT x.1 ++ (x.2 ++ blT r))).1.map (·.1) = x.1 :: r.map (·.1) ∧ (scanS off (txtT x.1 ++ (x.2 ++ blT r))).2.2 = 0
    rw [scanS_tok off _ hne x.1 _ _ hb, List.drop_left, s2]
    simp only [List.map_cons, i1]
    exact ⟨trivial, i2⟩
theorem take2_more (s x : List UInt8) (hs : s ≠ []) (v : List UInt8) (hv : v.length = 2) (h10 : v.getLast? ≠ some 10) : ((s ++ 10 :: x).take 2 = v) ↔ (s.take 2 = v) := by
  cases s with
  | nil => exact absurd rfl hs
  | cons c r => cases r with
    | nil =>
      constructor
      · intro e
        have e' : [c, 10] = v := e
        exact absurd (by rw [← e']; rfl) h10
      · intro e
        have e' : [c] = v := e
        rw [← e'] at hv; simp at hv
    | cons d r => exact Iff.rfl
theorem symb_more (s x : List UInt8) (hs : s ≠ []) : symb (s ++ 10 :: x) = symb s := by
  have h2 : syms2.contains ((s ++ 10 :: x).take 2) = syms2.contains (s.take 2) := by
    rw [Bool.eq_iff_iff, List.contains_iff_mem, List.contains_iff_mem]
    unfold syms2
    simp only [List.mem_cons, List.not_mem_nil, or_false]
    rw [take2_more s x hs [58, 61] rfl (by decide), take2_more s x hs [60, 62] rfl (by decide), take2_more s x hs [60, 61] rfl (by decide), take2_more s x hs [62, 61] rfl (by decide), take2_more s x hs [46, 46] rfl (by decide)]
  have h1 : (s ++ 10 :: x).headD 0 = s.headD 0 := by
    cases s with
    | nil => exact absurd rfl hs
    | cons c r => rfl
  unfold symb
  rw [h2, h1]
theorem head_more (s x : List UInt8) (k : UInt8) (h : k ≠ 10) : ((s ++ 10 :: x).head? = some k) ↔ (s.head? = some k) := by
  cases s with
  | nil =>
    constructor
    · intro e; exact absurd (Option.some.inj e).symm h
    · intro e; cases e
  | cons c r => exact Iff.rfl
/-- A line end, and anything behind it, makes no difference to a step that is no comment's error. -/
theorem stp_more (s x : List UInt8) (hs : s ≠ []) (o : Option T0) (n : Nat) (e : Int) (h : stp s = (o, n, e)) (he : e ≠ 43) : stp (s ++ 10 :: x) = (o, n, e) := by
  cases s with
  | nil => exact absurd rfl hs
  | cons c r =>
    have hne : (c :: r) ≠ [] := by simp
    have hcons : (c :: r) ++ 10 :: x = c :: (r ++ 10 :: x) := rfl
    by_cases h3 : isLt c = true
    · rw [stp_letter c r h3] at h
      have := stp_letter c (r ++ 10 :: x) h3
      rw [← hcons, tw_more isAn (c :: r) (10 :: x) (fun b hb => by rw [← Option.some.inj hb]; rfl)] at this
      rw [this]; exact h
    · have h3' : isLt c = false := by simpa using h3
      by_cases h4 : isDg c = true
      · rw [stp_digit c r h4] at h
        have := stp_digit c (r ++ 10 :: x) h4
        have htw := tw_more isHx (c :: r) (10 :: x) (fun b hb => by rw [← Option.some.inj hb]; rfl)
        have hle := tw_len isHx (c :: r)
        have hn : numS ((c :: r) ++ 10 :: x) = numS (c :: r) := by
          unfold numS
          rw [htw, List.drop_append_of_le_length hle]
          by_cases k : ((c :: r).drop ((c :: r).takeWhile isHx).length).head? = some 72
          · rw [if_pos k, if_pos ((head_more _ _ 72 (by decide)).2 k)]
          · rw [if_neg k, if_neg (fun k2 => k ((head_more _ _ 72 (by decide)).1 k2))]
        rw [← hcons, hn] at this
        rw [this]; exact h
      · have h4' : isDg c = false := by simpa using h4
        by_cases h5 : c = 34 ∨ c = 39
        · rw [stp_quote c r h5] at h
          have := stp_quote c (r ++ 10 :: x) h5
          have hx : strS c (r ++ 10 :: x) = strS c r := by
            unfold strS
            exact tw_more _ r (10 :: x) (fun b hb => by rw [← Option.some.inj hb]; simp)
          have hc10 : c ≠ 10 := by rcases h5 with rfl | rfl <;> decide
          have hle : (strS c r).length ≤ r.length := tw_len _ r
          rw [hx, List.drop_append_of_le_length hle] at this
          rw [hcons, this]
          by_cases k : (r.drop (strS c r).length).head? = some c
          · rw [if_pos k] at h
            rw [if_pos ((head_more _ _ c hc10).2 k)]; exact h
          · rw [if_neg k] at h
            rw [if_neg (fun k2 => k ((head_more _ _ c hc10).1 k2))]; exact h
        · by_cases h1 : isBl c = true
          · unfold stp at h ⊢
            rw [show (c :: r).headD 0 = c from rfl, if_pos h1] at h
            rw [show ((c :: r) ++ 10 :: x).headD 0 = c from rfl, if_pos h1]
            exact h
          · have h1' : isBl c = false := by simpa using h1
            by_cases h2 : (c :: r).take 2 = [40, 42]
            · have h2' := (take2_more (c :: r) x hne [40, 42] rfl (by decide)).2 h2
              unfold stp at h
              rw [show (c :: r).headD 0 = c from rfl, if_neg h1, if_pos h2] at h
              cases hq : cmt 0 (c :: r) with
              | none =>
                rw [hq] at h
                injection h with _ h
                injection h with _ h
                exact absurd h.symm he
              | some m =>
                rw [hq] at h
                rw [stp_cmt _ m (show isBl (((c :: r) ++ 10 :: x).headD 0) = false from h1') h2' (cmt_more _ _ _ _ hq)]; exact h
            · have h2' : ¬ ((c :: r) ++ 10 :: x).take 2 = [40, 42] := fun k => h2 ((take2_more (c :: r) x hne [40, 42] rfl (by decide)).1 k)
              rw [stp_other c r h1' h2 h3' h4' h5] at h
              rw [hcons] at h2'
              have := stp_other c (r ++ 10 :: x) h1' h2' h3' h4' h5
              rw [← hcons, symb_more (c :: r) x hne] at this
              rw [this]
              split at h
              · rename_i h0; rw [if_pos h0]; exact h
              · rename_i h0
                rw [if_neg h0]
                obtain ⟨_, _, k3, _⟩ := sym_cases c r h0
                rw [List.take_append_of_le_length k3]; exact h
/-- WHAT STANDS BEHIND AN ERROR MAKES NO DIFFERENCE TO IT, if it is no comment's. -/
theorem scan_more : ∀ (m : Nat) (s x : List UInt8) (off : Nat), s.length ≤ m → (scanS off s).2.2 ≠ 0 → (scanS off s).2.2 ≠ 43 → (scanS off (s ++ 10 :: x)).2 = (scanS off s).2
  | _, [], x, off, _, h, _ => by rw [scanS_nil] at h; exact absurd rfl h
  | 0, c :: r, x, off, hl, _, _ => by simp at hl
  | m + 1, c :: r, x, off, hl, h, h43 => by
    have hne : (c :: r) ≠ [] := by simp
    have hne2 : (c :: r) ++ 10 :: x ≠ [] := by simp
    have hcl : (c :: r).length = r.length + 1 := rfl
    rcases hq : stp (c :: r) with ⟨o, n, e⟩
    cases o with
    | some t =>
      obtain ⟨k0, k1, k2, k3, k4⟩ := stp_ok _ hne t n e hq
      have hq2 := stp_more (c :: r) x hne _ n e hq (by omega)
      rw [scanS_tok off _ hne t n e hq] at h h43 ⊢
      rw [scanS_tok off _ hne2 t n e hq2, List.drop_append_of_le_length k2]
      exact scan_more m ((c :: r).drop n) x (off + n) (by rw [List.length_drop]; omega) h h43
    | none =>
      by_cases he : e = 0
      · subst he
        obtain ⟨k1, k2⟩ := stp_skip _ hne n hq
        have hq2 := stp_more (c :: r) x hne _ n 0 hq (by omega)
        rw [scanS_skip off _ hne n hq] at h h43 ⊢
        rw [scanS_skip off _ hne2 n hq2, List.drop_append_of_le_length k2]
        exact scan_more m ((c :: r).drop n) x (off + n) (by rw [List.length_drop]; omega) h h43
      · have h43' : e ≠ 43 := by
          rw [scanS_err off _ hne n e he hq] at h43; exact h43
        rw [scanS_err off _ hne n e he hq, scanS_err off _ hne2 n e he (stp_more (c :: r) x hne _ n e hq h43')]
end Go.Proofs.YtggembknccbpnaaGreat
/- Layer 4 by plain functions: numbers in all ways in which they may be written. No program stands in here. -/
namespace Go.Proofs.YtggembknccbpnaaGreat
open Go
set_option linter.unusedVariables false
set_option maxRecDepth 10000

/-- A digit of a base up to 16. -/
def hexC (k : Nat) : UInt8 := if k < 10 then UInt8.ofNat (48 + k) else UInt8.ofNat (55 + k)
/-- A number's digits by a base above 1. -/
def digsB (base : Nat) (hb : 2 ≤ base) (u : Nat) : List UInt8 := if h : u < base then [hexC u] else digsB base hb (u / base) ++ [hexC (u % base)]
termination_by u
decreasing_by exact Nat.div_lt_self (by omega) (by omega)
theorem hexC_ok (k : Nat) (h : k < 16) : digV (hexC k) = (k : Int) ∧ isHx (hexC k) = true ∧ (k < 10 → isDg (hexC k) = true) := by
  unfold hexC
  by_cases h10 : k < 10
  · rw [if_pos h10]
    have e := dgN k h10
    refine ⟨digV_dig k h10, ?_, fun _ => ?_⟩
    · unfold isHx isDg; rw [e]; simp; omega
    · unfold isDg; rw [e]; simp; omega
  · rw [if_neg h10]
    have e : (UInt8.ofNat (55 + k)).toNat = 55 + k := by rw [UInt8.toNat_ofNat']; omega
    refine ⟨?_, ?_, fun h' => absurd h' h10⟩
    · unfold digV; rw [e, if_pos (by omega)]; omega
    · unfold isHx isDg; rw [e]; simp; omega
theorem digs_ok (base : Nat) (hb : 2 ≤ base) (h16 : base ≤ 16) (u : Nat) : (∀ b ∈ digsB base hb u, isHx b = true ∧ 0 ≤ digV b ∧ digV b < base ∧ (base ≤ 10 → isDg b = true)) ∧ vOf base 0 (digsB base hb u) = u ∧ digsB base hb u ≠ [] := by
  induction u using Nat.strongRecOn with
  | _ u ih =>
    rw [digsB]
    by_cases h : u < base
    · rw [dif_pos h]
      obtain ⟨e1, e2, e3⟩ := hexC_ok u (by omega)
      refine ⟨fun b hb => ?_, ?_, by simp⟩
      · rw [List.mem_singleton] at hb; subst hb
        exact ⟨e2, by omega, by omega, fun hq => e3 (by omega)⟩
      · show 0 * base + (digV (hexC u)).toNat = u
        rw [e1]; omega
    · rw [dif_neg h]
      have hlt := Nat.mod_lt u (show 0 < base by omega)
      obtain ⟨i1, i2, i3⟩ := ih (u / base) (Nat.div_lt_self (by omega) (by omega))
      obtain ⟨e1, e2, e3⟩ := hexC_ok (u % base) (by omega)
      refine ⟨fun b hb => ?_, ?_, by simp⟩
      · rcases List.mem_append.1 hb with hb | hb
        · exact i1 b hb
        · rw [List.mem_singleton] at hb; subst hb
          exact ⟨e2, by omega, by omega, fun hq => e3 (by omega)⟩
      · rw [vOf_snoc, i2, e1, Int.toNat_natCast, Nat.mul_comm]
        exact Nat.div_add_mod u base
theorem vOf_zeros (base : Nat) (s : List UInt8) : ∀ k : Nat, vOf base 0 (List.replicate k 48 ++ s) = vOf base 0 s
  | 0 => rfl
  | k + 1 => by
    show vOf base (0 * base + (digV 48).toNat) (List.replicate k 48 ++ s) = _
    rw [show 0 * base + (digV 48).toNat = 0 by rw [Nat.zero_mul]; rfl]
    exact vOf_zeros base s k
theorem valS_ok (base : Nat) (hb : 1 ≤ base) (most : Int) (s : List UInt8) (hs : s ≠ []) (hd : ∀ b ∈ s, 0 ≤ digV b ∧ digV b < base) (h : ((vOf base 0 s : Nat) : Int) ≤ most) : valS base most s = some ((vOf base 0 s : Nat) : Int) := by
  unfold valS
  rw [if_neg hs]
  exact valL_ok base hb most s 0 hd h
theorem numS_all (s : List UInt8) (h : ∀ b ∈ s, isHx b = true) : numS s = s := by
  have := numS_back s [] h (fun c hc => by simp at hc)
  simpa using this
/-- A source that is one number: a step that takes all of it. -/
theorem stp_num (s : List UInt8) (hs : s ≠ []) (hd : isDg (s.headD 0) = true) (hn : numS s = s) : stp s = match num s with
    | some t => (some t, s.length, 0)
    | none => (none, 0, 41) := by
  cases s with
  | nil => exact absurd rfl hs
  | cons c r =>
    have := stp_digit c r hd
    rw [hn] at this
    rw [this]
    all_goals (cases num (c :: r) <;> rfl)
theorem num_way10 (s : List UInt8) (hs : s ≠ []) (hd : ∀ b ∈ s, isHx b = true ∧ 0 ≤ digV b ∧ digV b < (10 : Nat) ∧ isDg b = true) (hv : vOf 10 0 s ≤ 65535) : num s = some ⟨2, [], ((vOf 10 0 s : Nat) : Int)⟩ := by
  unfold num
  rw [if_neg (fun e => by
    have h1 := (hd 72 (List.mem_of_getLast? e)).2.2.2
    revert h1; decide)]
  have := valS_ok 10 (by omega) 65535 s hs (fun b hb => ⟨(hd b hb).2.1, (hd b hb).2.2.1⟩) (by omega)
  rw [show ((10 : Nat) : Int) = 10 from rfl] at this
  rw [this]
theorem num_way16 (s : List UInt8) (hs : s ≠ []) (hd : ∀ b ∈ s, isHx b = true ∧ 0 ≤ digV b ∧ digV b < (16 : Nat)) (hv : vOf 16 0 s ≤ 65535) : num (s ++ [72]) = some ⟨2, [], ((vOf 16 0 s : Nat) : Int)⟩ := by
  have hl : (s ++ [72]).getLast? = some (72 : UInt8) := by simp
  have hdl : (s ++ [(72 : UInt8)]).dropLast = s := by simp
  unfold num
  rw [hl, hdl, if_pos rfl]
  have := valS_ok 16 (by omega) 65535 s hs (fun b hb => ⟨(hd b hb).2.1, (hd b hb).2.2⟩) (by omega)
  rw [show ((16 : Nat) : Int) = 16 from rfl] at this
  rw [this]; rfl
theorem val10_no (s : List UInt8) (k : UInt8) (hk : 10 ≤ digV k) : valS 10 65535 (s ++ [k]) = none := by
  unfold valS
  rw [if_neg (by simp)]
  exact valL_none 10 65535 _ 0 k (by simp) hk
theorem num_way8 (s : List UInt8) (hs : s ≠ []) (hd : ∀ b ∈ s, isHx b = true ∧ 0 ≤ digV b ∧ digV b < (8 : Nat)) (hv : vOf 8 0 s ≤ 65535) : num (s ++ [66]) = some ⟨2, [], ((vOf 8 0 s : Nat) : Int)⟩ := by
  have hl : (s ++ [66]).getLast? = some (66 : UInt8) := by simp
  have hdl : (s ++ [(66 : UInt8)]).dropLast = s := by simp
  unfold num
  rw [hl, hdl, if_neg (by decide), val10_no s 66 (by decide)]
  simp only
  rw [if_pos trivial]
  have := valS_ok 8 (by omega) 65535 s hs (fun b hb => ⟨(hd b hb).2.1, (hd b hb).2.2⟩) (by omega)
  rw [show ((8 : Nat) : Int) = 8 from rfl] at this
  rw [this]; rfl
theorem num_way8c (s : List UInt8) (hs : s ≠ []) (hd : ∀ b ∈ s, isHx b = true ∧ 0 ≤ digV b ∧ digV b < (8 : Nat)) : num (s ++ [67]) = if vOf 8 0 s ≤ 255 then some ⟨3, [], ((vOf 8 0 s : Nat) : Int)⟩ else none := by
  have hl : (s ++ [67]).getLast? = some (67 : UInt8) := by simp
  have hdl : (s ++ [(67 : UInt8)]).dropLast = s := by simp
  unfold num
  rw [hl, hdl, if_neg (by decide), val10_no s 67 (by decide)]
  simp only
  rw [if_neg (by decide), if_pos trivial]
  by_cases hv : vOf 8 0 s ≤ 255
  · have := valS_ok 8 (by omega) 255 s hs (fun b hb => ⟨(hd b hb).2.1, (hd b hb).2.2⟩) (by omega)
    rw [show ((8 : Nat) : Int) = 8 from rfl] at this
    rw [this, if_pos hv]; rfl
  · rw [if_neg hv]
    cases hq : valS 8 255 s with
    | none => rfl
    | some n =>
      obtain ⟨_, _, a2, a3⟩ := valS_inv 8 255 s n (fun b hb => (hd b hb).2.1) hq
      omega
/-- Zeros ahead of digits. -/
def zers (k : Nat) (s : List UInt8) : List UInt8 := List.replicate k 48 ++ s
theorem zers_all (k : Nat) (s : List UInt8) (p : UInt8 → Prop) (h0 : p 48) (h : ∀ b ∈ s, p b) : ∀ b ∈ zers k s, p b := fun b hb => by
  rcases List.mem_append.1 hb with hb | hb
  · rw [(List.mem_replicate.1 hb).2]; exact h0
  · exact h b hb
theorem zers_ne (k : Nat) (s : List UInt8) (h : s ≠ []) : zers k s ≠ [] := fun e => by
  unfold zers at e
  rw [List.append_eq_nil_iff] at e
  exact h e.2
theorem head_of (s : List UInt8) (hs : s ≠ []) (p : UInt8 → Prop) (h : ∀ b ∈ s, p b) (x : List UInt8) : p ((s ++ x).headD 0) := by
  cases s with
  | nil => exact absurd rfl hs
  | cons c r => exact h c (by simp)
/-- Scanning a source that is one number. -/
theorem scan_one (s : List UInt8) (hs : s ≠ []) (t : T0) (h : stp s = (some t, s.length, 0)) : scanS 0 s = ([(t, 0, s.length)], s.length, 0) := by
  rw [scanS_tok 0 s hs t _ _ h, List.drop_of_length_le (Nat.le_refl _), Nat.zero_add, scanS_nil]
theorem way10 (k u : Nat) (hu : u ≤ 65535) : scanS 0 (zers k (digsB 10 (by omega) u)) = ([(⟨2, [], u⟩, 0, (zers k (digsB 10 (by omega) u)).length)], (zers k (digsB 10 (by omega) u)).length, 0) := by
  obtain ⟨d1, d2, d3⟩ := digs_ok 10 (by omega) (by omega) u
  have hall := zers_all k (digsB 10 (by omega) u) (fun b => isHx b = true ∧ 0 ≤ digV b ∧ digV b < (10 : Nat) ∧ isDg b = true) (by decide) (fun b hb => ⟨(d1 b hb).1, (d1 b hb).2.1, (d1 b hb).2.2.1, (d1 b hb).2.2.2 (by omega)⟩)
  have hne := zers_ne k _ d3
  have hv : vOf 10 0 (zers k (digsB 10 (by omega) u)) = u := by unfold zers; rw [vOf_zeros, d2]
  have hn := num_way10 _ hne hall (by omega)
  rw [hv] at hn
  refine scan_one _ hne _ ?_
  have hh := head_of _ hne (fun b => isDg b = true) (fun b hb => (hall b hb).2.2.2) []
  rw [List.append_nil] at hh
  rw [stp_num _ hne hh (numS_all _ fun b hb => (hall b hb).1), hn]
theorem numS_H (s : List UInt8) (h : ∀ b ∈ s, isHx b = true) : numS (s ++ [72]) = s ++ [72] := by
  have e := tw_app isHx s [72] h (fun c hc => by rw [← Option.some.inj hc]; rfl)
  unfold numS
  rw [e, List.drop_left]
  rfl
theorem way16 (k u : Nat) (hu : u ≤ 65535) : scanS 0 (zers (k + 1) (digsB 16 (by omega) u) ++ [72]) = ([(⟨2, [], u⟩, 0, (zers (k + 1) (digsB 16 (by omega) u) ++ [72]).length)], (zers (k + 1) (digsB 16 (by omega) u) ++ [72]).length, 0) := by
  obtain ⟨d1, d2, d3⟩ := digs_ok 16 (by omega) (by omega) u
  have hall := zers_all (k + 1) (digsB 16 (by omega) u) (fun b => isHx b = true ∧ 0 ≤ digV b ∧ digV b < (16 : Nat)) (by decide) (fun b hb => ⟨(d1 b hb).1, (d1 b hb).2.1, (d1 b hb).2.2.1⟩)
  have hne := zers_ne (k + 1) _ d3
  have hv : vOf 16 0 (zers (k + 1) (digsB 16 (by omega) u)) = u := by unfold zers; rw [vOf_zeros, d2]
  have hn := num_way16 _ hne hall (by omega)
  rw [hv] at hn
  refine scan_one _ (by simp) _ ?_
  have hh : isDg ((zers (k + 1) (digsB 16 (by omega) u) ++ [72]).headD 0) = true := rfl
  rw [stp_num _ (by simp) hh (numS_H _ fun b hb => (hall b hb).1), hn]
theorem way8 (k u : Nat) (hu : u ≤ 65535) : scanS 0 (zers k (digsB 8 (by omega) u) ++ [66]) = ([(⟨2, [], u⟩, 0, (zers k (digsB 8 (by omega) u) ++ [66]).length)], (zers k (digsB 8 (by omega) u) ++ [66]).length, 0) := by
  obtain ⟨d1, d2, d3⟩ := digs_ok 8 (by omega) (by omega) u
  have hall := zers_all k (digsB 8 (by omega) u) (fun b => isHx b = true ∧ 0 ≤ digV b ∧ digV b < (8 : Nat) ∧ isDg b = true) (by decide) (fun b hb => ⟨(d1 b hb).1, (d1 b hb).2.1, (d1 b hb).2.2.1, (d1 b hb).2.2.2 (by omega)⟩)
  have hne := zers_ne k _ d3
  have hv : vOf 8 0 (zers k (digsB 8 (by omega) u)) = u := by unfold zers; rw [vOf_zeros, d2]
  have hn := num_way8 _ hne (fun b hb => ⟨(hall b hb).1, (hall b hb).2.1, (hall b hb).2.2.1⟩) (by omega)
  rw [hv] at hn
  refine scan_one _ (by simp) _ ?_
  have hh := head_of _ hne (fun b => isDg b = true) (fun b hb => (hall b hb).2.2.2) [66]
  rw [stp_num _ (by simp) hh (numS_all _ fun b hb => by
    rcases List.mem_append.1 hb with hb | hb
    · exact (hall b hb).1
    · rw [List.mem_singleton] at hb; subst hb; rfl), hn]
theorem way8c (k u : Nat) : scanS 0 (zers k (digsB 8 (by omega) u) ++ [67]) = if u ≤ 255 then ([(⟨3, [], u⟩, 0, (zers k (digsB 8 (by omega) u) ++ [67]).length)], (zers k (digsB 8 (by omega) u) ++ [67]).length, 0) else ([], 0, 41) := by
  obtain ⟨d1, d2, d3⟩ := digs_ok 8 (by omega) (by omega) u
  have hall := zers_all k (digsB 8 (by omega) u) (fun b => isHx b = true ∧ 0 ≤ digV b ∧ digV b < (8 : Nat) ∧ isDg b = true) (by decide) (fun b hb => ⟨(d1 b hb).1, (d1 b hb).2.1, (d1 b hb).2.2.1, (d1 b hb).2.2.2 (by omega)⟩)
  have hne := zers_ne k _ d3
  have hv : vOf 8 0 (zers k (digsB 8 (by omega) u)) = u := by unfold zers; rw [vOf_zeros, d2]
  have hn := num_way8c _ hne (fun b hb => ⟨(hall b hb).1, (hall b hb).2.1, (hall b hb).2.2.1⟩)
  rw [hv] at hn
  have hh := head_of _ hne (fun b => isDg b = true) (fun b hb => (hall b hb).2.2.2) [67]
  have hst := stp_num (zers k (digsB 8 (by omega) u) ++ [67]) (by simp) hh (numS_all _ fun b hb => by
    rcases List.mem_append.1 hb with hb | hb
    · exact (hall b hb).1
    · rw [List.mem_singleton] at hb; subst hb; rfl)
  rw [hn] at hst
  by_cases h : u ≤ 255
  · rw [if_pos h] at hst ⊢
    exact scan_one _ (by simp) _ hst
  · rw [if_neg h] at hst ⊢
    exact scanS_err 0 _ (by simp) 0 41 (by decide) hst
end Go.Proofs.YtggembknccbpnaaGreat
