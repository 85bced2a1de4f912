/- The texts of places: digits, cutting at the colon, reading back. No program stands in here. -/
import Derived.Test.YtbfclibjnanlgaaGreatDoorPlF
import Derived.Lib.AtoiAll
import Derived.Lib.AtoiAllCases
import Derived.Lib.ItoaMem
import Derived.Lib.IndexMore
namespace Go.Proofs.YtbfclibjnanlgaaGreatDoor
open Go
set_option linter.unusedVariables false

/-- A digit. -/
def isD (b : UInt8) : Prop := 48 ≤ b.toNat ∧ b.toNat ≤ 57
/-- The number that digits are, behind a. -/
def valD (a : Nat) : List UInt8 → Nat
  | [] => a
  | b :: r => valD (10 * a + (b.toNat - 48)) r
theorem valD_ge : ∀ (s : List UInt8) (a : Nat), a ≤ valD a s
  | [], a => Nat.le_refl _
  | b :: r, a => by
    have := valD_ge r (10 * a + (b.toNat - 48))
    show a ≤ valD (10 * a + (b.toNat - 48)) r
    omega
theorem valD_snoc : ∀ (s : List UInt8) (a : Nat) (b : UInt8), valD a (s ++ [b]) = 10 * valD a s + (b.toNat - 48)
  | [], a, b => rfl
  | c :: r, a, b => valD_snoc r (10 * a + (c.toNat - 48)) b
theorem dig_nat (k : Nat) (h : k < 10) : (UInt8.ofNat (48 + k)).toNat = 48 + k := by
  rw [UInt8.toNat_ofNat']; omega
theorem dig_back (b : UInt8) (h : isD b) : UInt8.ofNat (48 + (b.toNat - 48)) = b := by
  rw [show 48 + (b.toNat - 48) = b.toNat by have := h.1; omega]; exact UInt8.ofNat_toNat
theorem head_app (s t : List UInt8) (h : s ≠ []) : (s ++ t).head? = s.head? := by
  cases s with
  | nil => exact absurd rfl h
  | cons a r => rfl
/-- What a number's digits are. -/
theorem dec_all (u : Nat) : (∀ b ∈ Lib.decDigits u, isD b) ∧ valD 0 (Lib.decDigits u) = u ∧ Lib.decDigits u ≠ [] ∧ (0 < u → (Lib.decDigits u).head?.map (·.toNat) ≠ some 48) := by
  induction u using Nat.strongRecOn with
  | _ u ih =>
    rw [Lib.decDigits]
    by_cases h : u < 10
    · rw [dif_pos h]
      have e := dig_nat u h
      refine ⟨fun b hb => ?_, ?_, by simp, fun h0 => ?_⟩
      · rw [List.mem_singleton] at hb; subst hb; unfold isD; rw [e]; omega
      · show 10 * 0 + ((UInt8.ofNat (48 + u)).toNat - 48) = u
        rw [e]; omega
      · show ¬ (some (UInt8.ofNat (48 + u)).toNat = some 48)
        rw [e]; intro k; injection k with k; omega
    · rw [dif_neg h]
      obtain ⟨i1, i2, i3, i4⟩ := ih (u / 10) (by omega)
      have e := dig_nat (u % 10) (by omega)
      refine ⟨fun b hb => ?_, ?_, by simp, fun h0 => ?_⟩
      · rcases List.mem_append.1 hb with hb | hb
        · exact i1 b hb
        · rw [List.mem_singleton] at hb; subst hb; unfold isD; rw [e]; omega
      · rw [valD_snoc, i2, e]; omega
      · rw [head_app _ _ i3]
        exact i4 (by omega)
/-- Digits, the first one not 0, are their number's. -/
theorem dec_val : ∀ (n : Nat) (s : List UInt8), s.length = n → s ≠ [] → (∀ b ∈ s, isD b) → s.head?.map (·.toNat) ≠ some 48 → 0 < valD 0 s ∧ Lib.decDigits (valD 0 s) = s
  | 0, s, hl, hne, _, _ => absurd (List.length_eq_zero_iff.1 hl) hne
  | n + 1, s, hl, hne, hd, hh => by
    rcases List.eq_nil_or_concat s with rfl | ⟨t, b, rfl⟩
    · exact absurd rfl hne
    · rw [List.concat_eq_append] at hl hne hd hh ⊢
      have hb : isD b := hd b (by simp)
      rw [valD_snoc]
      by_cases ht : t = []
      · subst ht
        have h48 : b.toNat ≠ 48 := fun k => hh (by simp [k])
        have := hb.1; have := hb.2
        have e : 10 * valD 0 [] + (b.toNat - 48) = b.toNat - 48 := by show 10 * 0 + _ = _; omega
        rw [e]
        refine ⟨by omega, ?_⟩
        rw [Lib.decDigits, dif_pos (by omega), dig_back b hb]; rfl
      · obtain ⟨v0, v1⟩ := dec_val n t (by simpa using hl) ht (fun c hc => hd c (by simp [hc])) (by rw [head_app _ _ ht] at hh; exact hh)
        have := hb.1; have := hb.2
        refine ⟨by omega, ?_⟩
        rw [Lib.decDigits, dif_neg (by omega), show (10 * valD 0 t + (b.toNat - 48)) / 10 = valD 0 t by omega, v1, show (10 * valD 0 t + (b.toNat - 48)) % 10 = b.toNat - 48 by omega, dig_back b hb]
/-- What Number says of digits. -/
theorem num_dig : ∀ (s : List UInt8) (f : Bool) (n : Nat), (∀ b ∈ s, isD b) → (f = true → s.head?.map (·.toNat) ≠ some 48) → valD n s ≤ 1073741824 → numR f n s = (valD n s : Nat)
  | [], f, n, _, _, h => numR_nil f n (by have : n ≤ 1073741824 := h; omega)
  | b :: r, f, n, hd, hf, h => by
    have hb := hd b (by simp)
    have h1 := hb.1; have h2 := hb.2
    have hle := valD_ge r (10 * n + (b.toNat - 48))
    have h' : valD (10 * n + (b.toNat - 48)) r ≤ 1073741824 := h
    rw [numR_good f n b r (by omega) (by omega) (fun k => by have := hf k; simp at this; omega) (by omega), show 10 * (n : Int) + ((b.toNat : Int) - 48) = ((10 * n + (b.toNat - 48) : Nat) : Int) by omega]
    exact num_dig r false _ (fun c hc => hd c (by simp [hc])) (fun k => by cases k) h'
/-- And back. -/
theorem num_back : ∀ (s : List UInt8) (f : Bool) (n : Nat), 1 ≤ numR f n s → (∀ b ∈ s, isD b) ∧ (f = true → s.head?.map (·.toNat) ≠ some 48) ∧ numR f n s = (valD n s : Nat)
  | [], f, n, h => by
    refine ⟨fun b hb => by simp at hb, fun _ => by simp, ?_⟩
    by_cases hn : 1073741824 < (n : Int)
    · rw [numR_big f n _ hn] at h; omega
    · exact numR_nil f n hn
  | b :: r, f, n, h => by
    by_cases hbad : (b.toNat : Int) < 48 ∨ 57 < (b.toNat : Int) ∨ (f = true ∧ (b.toNat : Int) = 48)
    · rw [numR_bad f n b r hbad] at h; omega
    · by_cases hn : 1073741824 < (n : Int)
      · rw [numR_big f n _ hn] at h; omega
      · have h1 : 48 ≤ b.toNat := Nat.le_of_not_lt fun k => hbad (.inl (by omega))
        have h2 : b.toNat ≤ 57 := Nat.le_of_not_lt fun k => hbad (.inr (.inl (by omega)))
        have h3 : f = true → (b.toNat : Int) ≠ 48 := fun k e => hbad (.inr (.inr ⟨k, e⟩))
        have e := numR_good f n b r (by omega) (by omega) h3 hn
        rw [show 10 * (n : Int) + ((b.toNat : Int) - 48) = ((10 * n + (b.toNat - 48) : Nat) : Int) by omega] at e
        rw [e] at h
        obtain ⟨a1, a2, a3⟩ := num_back r false _ h
        refine ⟨fun c hc => ?_, fun k => ?_, e.trans a3⟩
        · rcases List.mem_cons.1 hc with rfl | hc
          · exact ⟨h1, h2⟩
          · exact a1 c hc
        · have := h3 k
          simp; omega
/-- The text of a place. -/
def txt (l c : Int) : List UInt8 := Lib.decDigits l.toNat ++ 58 :: Lib.decDigits c.toNat
/-- The text of a place; none: nothing. -/
def txtOf (l c : Int) : List UInt8 := if isP l c then txt l c else []
theorem num_dec (l : Int) (h0 : 1 ≤ l) (h1 : l ≤ 1073741824) : numR true 0 (Lib.decDigits l.toNat) = l := by
  obtain ⟨i1, i2, i3, i4⟩ := dec_all l.toNat
  have := num_dig (Lib.decDigits l.toNat) true 0 i1 (fun _ => i4 (by omega)) (by omega)
  rw [i2] at this
  rw [show (0 : Int) = ((0 : Nat) : Int) by rfl, this]; omega
theorem dec_num (s : List UInt8) (h : 1 ≤ numR true 0 s) : s = Lib.decDigits (numR true 0 s).toNat := by
  obtain ⟨a1, a2, a3⟩ := num_back s true 0 h
  have hne : s ≠ [] := fun e => by subst e; simp [numR] at h
  obtain ⟨v0, v1⟩ := dec_val s.length s rfl hne a1 (a2 rfl)
  have e : (numR true 0 s).toNat = valD 0 s := by
    have : numR true 0 s = (valD 0 s : Nat) := a3
    rw [this]; simp
  rw [e, v1]
theorem no_colon (u : Nat) : ∀ b ∈ Lib.decDigits u, b ≠ 58 := fun b hb e => by
  have := (dec_all u).1 b hb
  subst e
  exact absurd this.2 (by decide)
theorem readGo_cut : ∀ (a : List UInt8) (pre r : List UInt8), (∀ b ∈ a, b ≠ 58) → readGo pre (a ++ 58 :: r) = okP (numR true 0 (pre ++ a)) (numR true 0 r)
  | [], pre, r, _ => by
    show readGo pre (58 :: r) = _
    rw [readGo, if_pos rfl, List.append_nil]
  | b :: a, pre, r, h => by
    show readGo pre (b :: (a ++ 58 :: r)) = _
    rw [readGo, if_neg (h b (by simp)), readGo_cut a (pre ++ [b]) r (fun c hc => h c (by simp [hc])), List.append_assoc]; rfl
/-- A place's text is read as that place. -/
theorem readGo_txt (l c : Int) (h : isP l c = true) : readGo [] (txt l c) = (l, c) := by
  obtain ⟨h1, h2, h3, h4⟩ := (isP_iff l c).1 h
  unfold txt
  rw [readGo_cut _ [] _ (no_colon _), List.nil_append, num_dec l h1 h2, num_dec c h3 h4]
  unfold okP; rw [if_pos h]
theorem readGo_back : ∀ (s pre : List UInt8), isP (readGo pre s).1 (readGo pre s).2 = true → pre ++ s = txt (readGo pre s).1 (readGo pre s).2
  | [], pre, h => by rw [readGo, isP_zero] at h; cases h
  | b :: r, pre, h => by
    by_cases hb : b = 58
    · subst hb
      rw [readGo, if_pos rfl] at h ⊢
      unfold okP at h ⊢
      by_cases hp : isP (numR true 0 pre) (numR true 0 r) = true
      · rw [if_pos hp]
        obtain ⟨h1, h2, h3, h4⟩ := (isP_iff _ _).1 hp
        unfold txt
        rw [← dec_num pre h1, ← dec_num r h3]
      · rw [if_neg hp, isP_zero] at h; cases h
    · rw [readGo, if_neg hb] at h ⊢
      have := readGo_back r (pre ++ [b]) h
      rw [List.append_assoc] at this
      exact this
theorem readGo_ok : ∀ (s pre : List UInt8), readGo pre s = (0, 0) ∨ isP (readGo pre s).1 (readGo pre s).2 = true
  | [], pre => .inl rfl
  | b :: r, pre => by
    rw [readGo]
    by_cases hb : b = 58
    · rw [if_pos hb]; unfold okP
      by_cases hp : isP (numR true 0 pre) (numR true 0 r) = true
      · rw [if_pos hp]; exact .inr hp
      · rw [if_neg hp]; exact .inl rfl
    · rw [if_neg hb]; exact readGo_ok r _
/-- Cutting a place's text at the colon. -/
theorem index_colon : ∀ (a r : List UInt8), (∀ b ∈ a, b ≠ 58) → Lib.index (a ++ 58 :: r) [58] = (a.length : Nat)
  | [], r, _ => by
    show Lib.index (58 :: r) [58] = 0
    rw [Lib.index, if_pos (by simp [List.isPrefixOf])]
  | b :: a, r, h => by
    show Lib.index (b :: (a ++ 58 :: r)) [58] = _
    have ih := index_colon a r (fun c hc => h c (by simp [hc]))
    have hb : (58 == b) = false := beq_eq_false_iff_ne.2 (fun e => h b (by simp) e.symm)
    rw [Lib.index, if_neg (by simp [List.isPrefixOf, hb]), ih, if_neg (by simp)]
    simp
theorem cut_txt (l c : Int) : Lib.cut (txt l c) [58] = (Lib.decDigits l.toNat, Lib.decDigits c.toNat, true) := by
  unfold Lib.cut txt
  rw [index_colon _ _ (no_colon _), if_pos (by omega)]
  have e : ((List.length (Lib.decDigits l.toNat) : Nat) : Int).toNat = (Lib.decDigits l.toNat).length := by omega
  rw [e, List.take_left, show (Lib.decDigits l.toNat).length + [(58 : UInt8)].length = (Lib.decDigits l.toNat).length + 1 from rfl, List.drop_append, List.drop_of_length_le (by omega)]
  simp
/-- Atoi of digits. -/
theorem parse_dig : ∀ (s : List UInt8) (n : Nat), (∀ b ∈ s, isD b) → valD n s ≤ 1073741824 → Lib.parseUint10 n s = .ok (valD n s)
  | [], n, _, _ => rfl
  | b :: r, n, hd, h => by
    have hb := hd b (by simp)
    have h1 := hb.1; have h2 := hb.2
    have hle := valD_ge r (10 * n + (b.toNat - 48))
    have h' : valD (10 * n + (b.toNat - 48)) r ≤ 1073741824 := h
    rw [Lib.parseUint10, if_pos ⟨h1, h2⟩, if_neg (by omega), if_neg (by omega), show n * 10 + (b.toNat - 48) = 10 * n + (b.toNat - 48) by omega]
    exact parse_dig r _ (fun c hc => hd c (by simp [hc])) h'
theorem atoi_dec (l : Int) (h0 : 1 ≤ l) (h1 : l ≤ 1073741824) : Lib.atoiAll (Lib.decDigits l.toNat) = .ok l := by
  obtain ⟨i1, i2, i3, i4⟩ := dec_all l.toNat
  cases hs : Lib.decDigits l.toNat with
  | nil => exact absurd hs i3
  | cons b r =>
    rw [hs] at i1 i2
    have hb := i1 b (by simp)
    rw [Lib.atoiAll_plain b r (by have := hb.1; omega) (by have := hb.1; omega)]
    unfold Lib.parseMag
    rw [if_neg (by simp), parse_dig (b :: r) 0 i1 (by omega), i2]
    unfold Lib.signless
    simp only
    rw [if_neg (by omega)]
    congr 1; omega
theorem itoa_dec (l : Int) (h0 : 1 ≤ l) : Lib.itoa l = Lib.decDigits l.toNat := by
  unfold Lib.itoa; rw [if_neg (by omega)]
theorem dgs_dec (l : Int) (h0 : 1 ≤ l) : dgs l.toNat = Lib.decDigits l.toNat := by
  unfold dgs; rw [if_neg (by omega)]
theorem dec_short (l : Int) (h0 : 1 ≤ l) (h1 : l ≤ 1073741824) : (Lib.decDigits l.toNat).length ≤ 10 := dec_len 9 l.toNat (by omega)
theorem txt_short (l c : Int) (h : isP l c = true) : (txt l c).length ≤ 21 := by
  obtain ⟨h1, h2, h3, h4⟩ := (isP_iff l c).1 h
  have := dec_short l h1 h2
  have := dec_short c h3 h4
  unfold txt
  simp; omega
end Go.Proofs.YtbfclibjnanlgaaGreatDoor
