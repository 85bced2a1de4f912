/- Layer 4 by plain functions: what a step may give, and that it is read back. No program stands in here. -/
import Derived.Test.YtliebhpddjbjeaaGreatDoorLxQ
namespace Go.Proofs.YtliebhpddjbjeaaGreatDoor
open Go
set_option linter.unusedVariables false
set_option maxRecDepth 10000

/-- The symbols as they are written one way. -/
def symsP : List (List UInt8) := [[43], [45], [42], [47], [46], [44], [59], [40], [91], [123], [94], [61], [35], [60], [62], [58], [41], [93], [125], [124], [58, 61], [60, 61], [62, 61], [46, 46]]
/-- What a token may be. -/
def tokOk (t : T0) : Prop :=
  (t.k = 1 ∧ nameB t.x = true ∧ t.n = 0) ∨ (t.k = 6 ∧ wordB t.x = true ∧ t.n = 0) ∨ (t.k = 2 ∧ t.x = [] ∧ 0 ≤ t.n ∧ t.n ≤ 65535) ∨ (t.k = 3 ∧ t.x = [] ∧ 0 ≤ t.n ∧ t.n ≤ 255) ∨
  (t.k = 4 ∧ t.n = 0 ∧ (∀ b ∈ t.x, b ≠ 10) ∧ (t.x.contains 34 = true → t.x.contains 39 = false)) ∨ (t.k = 5 ∧ t.n = 0 ∧ symsP.contains t.x = true)
/-- What may stand behind a token that is written. -/
def sepOk (rest : List UInt8) : Prop := ∀ c, rest.head? = some c → c = 9 ∨ c = 10 ∨ c = 13 ∨ c = 32 ∨ c = 40
theorem sep_an (rest : List UInt8) (h : sepOk rest) : ∀ c, rest.head? = some c → isAn c = false := fun c hc => by
  rcases h c hc with rfl | rfl | rfl | rfl | rfl <;> decide
theorem sep_hx (rest : List UInt8) (h : sepOk rest) : ∀ c, rest.head? = some c → isHx c = false := fun c hc => by
  rcases h c hc with rfl | rfl | rfl | rfl | rfl <;> decide
theorem resv_all : (resv.all fun x => !x.isEmpty && (x.take 1).all isLt && x.all isAn && decide (x.length ≤ 32) && x.all fun b => !isBl b && b != 40) = true := by decide +kernel
theorem lt_bl (c : UInt8) (h : isLt c = true) : isBl c = false ∧ c ≠ 40 ∧ isDg c = false := by
  unfold isLt at h
  unfold isBl isDg
  simp at h
  refine ⟨?_, ?_, ?_⟩
  · simp
    refine ⟨⟨⟨?_, ?_⟩, ?_⟩, ?_⟩ <;> (intro e; subst e; revert h; decide)
  · intro e; subst e; revert h; decide
  · simp; omega
theorem dg_bl (c : UInt8) (h : isDg c = true) : isBl c = false ∧ c ≠ 40 ∧ isLt c = false := by
  unfold isDg at h
  unfold isBl isLt
  simp at h
  refine ⟨?_, ?_, ?_⟩
  · simp
    refine ⟨⟨⟨?_, ?_⟩, ?_⟩, ?_⟩ <;> (intro e; subst e; revert h; decide)
  · intro e; subst e; revert h; decide
  · simp; omega
theorem take2_ne (c : UInt8) (r : List UInt8) (h : c ≠ 40) : (c :: r).take 2 ≠ [40, 42] := fun e => by
  cases r with
  | nil => simp at e
  | cons d r => simp at e; exact h e.1
/-- A step at a letter. -/
theorem stp_letter (c : UInt8) (r : List UInt8) (h : isLt c = true) : stp (c :: r) = if 32 < ((c :: r).takeWhile isAn).length then (none, 0, 5) else (some ⟨if wordB ((c :: r).takeWhile isAn) then 6 else 1, (c :: r).takeWhile isAn, 0⟩, ((c :: r).takeWhile isAn).length, 0) := by
  obtain ⟨h1, h2, h3⟩ := lt_bl c h
  unfold stp
  rw [show (c :: r).headD 0 = c from rfl, if_neg (by rw [h1]; decide), if_neg (take2_ne c r h2)]
  unfold oneL
  rw [show (c :: r).headD 0 = c from rfl, if_pos h]
/-- A step at a digit. -/
theorem stp_digit (c : UInt8) (r : List UInt8) (h : isDg c = true) : stp (c :: r) = match num (numS (c :: r)) with
    | some t => (some t, (numS (c :: r)).length, 0)
    | none => (none, 0, 41) := by
  obtain ⟨h1, h2, h3⟩ := dg_bl c h
  unfold stp
  rw [show (c :: r).headD 0 = c from rfl, if_neg (by rw [h1]; decide), if_neg (take2_ne c r h2)]
  unfold oneL
  rw [show (c :: r).headD 0 = c from rfl, if_neg (by rw [h3]; decide), if_pos h]
  cases num (numS (c :: r)) <;> rfl
/-- A step at a string's mark. -/
theorem stp_quote (c : UInt8) (r : List UInt8) (h : c = 34 ∨ c = 39) : stp (c :: r) = if (r.drop (strS c r).length).head? = some c then (some ⟨4, strS c r, 0⟩, (strS c r).length + 2, 0) else (none, 0, 42) := by
  have h1 : isBl c = false := by rcases h with rfl | rfl <;> decide
  have h2 : c ≠ 40 := by rcases h with rfl | rfl <;> decide
  have h3 : isLt c = false := by rcases h with rfl | rfl <;> decide
  have h4 : isDg c = false := by rcases h with rfl | rfl <;> decide
  unfold stp
  rw [show (c :: r).headD 0 = c from rfl, if_neg (by rw [h1]; decide), if_neg (take2_ne c r h2)]
  unfold oneL
  rw [show (c :: r).headD 0 = c from rfl, if_neg (by rw [h3]; decide), if_neg (by rw [h4]; decide), if_pos h]
  rfl
theorem letters_back (x rest : List UInt8) (hne : x ≠ []) (h1 : (x.take 1).all isLt = true) (h2 : x.all isAn = true) (h3 : x.length ≤ 32) (hs : sepOk rest) :
    stp (x ++ rest) = (some ⟨if wordB x then 6 else 1, x, 0⟩, x.length, 0) := by
  cases x with
  | nil => exact absurd rfl hne
  | cons c r =>
    have hc : isLt c = true := by simpa using h1
    have htw : ((c :: r) ++ rest).takeWhile isAn = c :: r := tw_app isAn (c :: r) rest (fun b hb => List.all_eq_true.1 h2 b hb) (sep_an rest hs)
    have e := stp_letter c (r ++ rest) hc
    rw [show c :: (r ++ rest) = (c :: r) ++ rest from rfl, htw, if_neg (by omega)] at e
    exact e
theorem name_back (t : T0) (hk : t.k = 1) (hx : nameB t.x = true) (hn : t.n = 0) (rest : List UInt8) (hs : sepOk rest) : stp (t.x ++ rest) = (some t, t.x.length, 0) := by
  unfold nameB at hx
  simp only [Bool.and_eq_true, Bool.not_eq_true', decide_eq_true_eq] at hx
  obtain ⟨⟨⟨⟨a1, a2⟩, a3⟩, a4⟩, a5⟩ := hx
  rw [letters_back t.x rest (fun e => by rw [e] at a1; simp at a1) a3 a5 a2 hs, a4]
  obtain ⟨k, x, n⟩ := t
  simp only at hk hn
  subst hk; subst hn; rfl
theorem word_back (t : T0) (hk : t.k = 6) (hx : wordB t.x = true) (hn : t.n = 0) (rest : List UInt8) (hs : sepOk rest) : stp (t.x ++ rest) = (some t, t.x.length, 0) := by
  have hm : t.x ∈ resv := by unfold wordB at hx; exact List.contains_iff_mem.1 hx
  have hall := List.all_eq_true.1 resv_all t.x hm
  simp only [Bool.and_eq_true, Bool.not_eq_true', decide_eq_true_eq] at hall
  obtain ⟨⟨⟨⟨a1, a2⟩, a3⟩, a4⟩, a5⟩ := hall
  rw [letters_back t.x rest (fun e => by rw [e] at a1; simp at a1) a2 a3 a4 hs, hx]
  obtain ⟨k, x, n⟩ := t
  simp only at hk hn
  subst hk; subst hn; rfl
theorem dig_hx (b : UInt8) (h : 48 ≤ b.toNat ∧ b.toNat ≤ 57) : isHx b = true ∧ 0 ≤ digV b ∧ digV b < 10 ∧ b ≠ 72 := by
  refine ⟨?_, ?_, ?_, ?_⟩
  · unfold isHx isDg; simp; omega
  · unfold digV; rw [if_neg (by omega)]; omega
  · unfold digV; rw [if_neg (by omega)]; omega
  · intro e; subst e; revert h; decide
theorem numS_back (u rest : List UInt8) (h : ∀ b ∈ u, isHx b = true) (hs : sepOk rest) : numS (u ++ rest) = u := by
  have e := tw_app isHx u rest h (sep_hx rest hs)
  unfold numS
  rw [e, if_neg]
  rw [List.drop_left]
  intro hh
  rcases hs 72 hh with k | k | k | k | k <;> exact absurd k (by decide)
theorem num_dec10 (u : Nat) (h : u ≤ 65535) : num (Lib.decDigits u) = some ⟨2, [], u⟩ := by
  obtain ⟨h1, h2, h3⟩ := dec_digs u
  unfold num
  have hlast : ∀ k : UInt8, (k.toNat < 48 ∨ 57 < k.toNat) → (Lib.decDigits u).getLast? ≠ some k := fun k hk e => by
    have := h1 k (List.mem_of_getLast? e)
    omega
  rw [if_neg (hlast 72 (by decide))]
  have hv : valS 10 65535 (Lib.decDigits u) = some (u : Int) := by
    unfold valS
    rw [if_neg h3]
    have := valL_ok 10 (by omega) 65535 (Lib.decDigits u) 0 (fun b hb => by have := dig_hx b (h1 b hb); exact ⟨this.2.1, this.2.2.1⟩) (by rw [h2]; omega)
    rw [h2] at this
    exact this
  rw [hv]
theorem num_back (t : T0) (hk : t.k = 2) (hx : t.x = []) (h0 : 0 ≤ t.n) (h1 : t.n ≤ 65535) (rest : List UInt8) (hs : sepOk rest) : stp (Lib.decDigits t.n.toNat ++ rest) = (some t, (Lib.decDigits t.n.toNat).length, 0) := by
  obtain ⟨d1, d2, d3⟩ := dec_digs t.n.toNat
  have e := numS_back (Lib.decDigits t.n.toNat) rest (fun b hb => (dig_hx b (d1 b hb)).1) hs
  have hn := num_dec10 t.n.toNat (by omega)
  have ht : (⟨2, [], ((t.n.toNat : Nat) : Int)⟩ : T0) = t := by
    obtain ⟨k, x, n⟩ := t
    simp only at hk hx h0 ⊢
    subst hk; subst hx
    rw [Int.toNat_of_nonneg h0]
  rw [ht] at hn
  cases hc : Lib.decDigits t.n.toNat with
  | nil => exact absurd hc d3
  | cons c r =>
    rw [hc] at e hn d1
    have hd : isDg c = true := by have := d1 c (by simp); unfold isDg; simp; omega
    have h := stp_digit c (r ++ rest) hd
    rw [show c :: (r ++ rest) = (c :: r) ++ rest from rfl, e, hn] at h
    exact h
theorem num_oct (u : Nat) (h : u ≤ 255) : num (octD u ++ [67]) = some ⟨3, [], u⟩ := by
  obtain ⟨h1, h2, h3⟩ := oct_digs u
  have hl : (octD u ++ [67]).getLast? = some (67 : UInt8) := by simp
  have hd : (octD u ++ [(67 : UInt8)]).dropLast = octD u := by simp
  unfold num
  rw [hl, hd, if_neg (by decide)]
  have hv : valS 10 65535 (octD u ++ [67]) = none := by
    unfold valS
    rw [if_neg (by simp)]
    exact valL_none 10 65535 _ 0 67 (by simp) (by decide)
  rw [hv]
  simp only
  rw [if_neg (by decide), if_pos trivial]
  have hv2 : valS 8 255 (octD u) = some (u : Int) := by
    unfold valS
    rw [if_neg h3]
    have := valL_ok 8 (by omega) 255 (octD u) 0 (fun b hb => by
      have hb := h1 b hb
      unfold digV; rw [if_neg (by omega)]; omega) (by rw [h2]; omega)
    rw [h2] at this
    exact this
  rw [hv2]; rfl
theorem char_back (t : T0) (hk : t.k = 3) (hx : t.x = []) (h0 : 0 ≤ t.n) (h1 : t.n ≤ 255) (rest : List UInt8) (hs : sepOk rest) : stp ((octD t.n.toNat ++ [67]) ++ rest) = (some t, (octD t.n.toNat ++ [67]).length, 0) := by
  obtain ⟨d1, d2, d3⟩ := oct_digs t.n.toNat
  have e := numS_back (octD t.n.toNat ++ [67]) rest (fun b hb => by
    rcases List.mem_append.1 hb with hb | hb
    · exact (dig_hx b (by have := d1 b hb; omega)).1
    · rw [List.mem_singleton] at hb; subst hb; decide) hs
  have hn := num_oct t.n.toNat (by omega)
  have ht : (⟨3, [], ((t.n.toNat : Nat) : Int)⟩ : T0) = t := by
    obtain ⟨k, x, n⟩ := t
    simp only at hk hx h0 ⊢
    subst hk; subst hx
    rw [Int.toNat_of_nonneg h0]
  rw [ht] at hn
  cases hc : octD t.n.toNat with
  | nil => exact absurd hc d3
  | cons c r =>
    rw [hc] at e hn d1
    have hd : isDg c = true := by have := d1 c (by simp); unfold isDg; simp; omega
    have h := stp_digit c ((r ++ [67]) ++ rest) hd
    rw [show c :: ((r ++ [67]) ++ rest) = ((c :: r) ++ [67]) ++ rest by simp, e, hn] at h
    exact h
theorem quote_back (c : UInt8) (hc : c = 34 ∨ c = 39) (x rest : List UInt8) (h1 : ∀ b ∈ x, b ≠ 10) (h2 : x.contains c = false) : stp ((c :: (x ++ [c])) ++ rest) = (some ⟨4, x, 0⟩, x.length + 2, 0) := by
  have hx : strS c ((x ++ [c]) ++ rest) = x := by
    unfold strS
    rw [List.append_assoc]
    refine tw_app _ x ([c] ++ rest) (fun b hb => ?_) (fun b hb => ?_)
    · have n1 := h1 b hb
      have n2 : b ≠ c := fun e => by
        subst e
        have := List.contains_iff_mem.2 hb
        rw [h2] at this; cases this
      simp [n1, n2]
    · have : c = b := by simpa using hb
      subst this; simp
  have h := stp_quote c ((x ++ [c]) ++ rest) hc
  rw [hx, if_pos (by rw [List.append_assoc, List.drop_left]; rfl)] at h
  exact h
theorem str_back (t : T0) (hk : t.k = 4) (hn : t.n = 0) (h1 : ∀ b ∈ t.x, b ≠ 10) (h2 : t.x.contains 34 = true → t.x.contains 39 = false) (rest : List UInt8) :
    stp ((if t.x.contains 34 then 39 :: (t.x ++ [39]) else 34 :: (t.x ++ [34])) ++ rest) = (some t, (if t.x.contains 34 then 39 :: (t.x ++ [39]) else 34 :: (t.x ++ [34])).length, 0) := by
  have ht : (⟨4, t.x, 0⟩ : T0) = t := by
    obtain ⟨k, x, n⟩ := t
    simp only at hk hn ⊢
    subst hk; subst hn; rfl
  cases h : t.x.contains 34
  · rw [if_neg (by decide), quote_back 34 (.inl rfl) t.x rest h1 h, ht]
    simp
  · rw [if_pos rfl, quote_back 39 (.inr rfl) t.x rest h1 (h2 h), ht]
    simp
end Go.Proofs.YtliebhpddjbjeaaGreatDoor
