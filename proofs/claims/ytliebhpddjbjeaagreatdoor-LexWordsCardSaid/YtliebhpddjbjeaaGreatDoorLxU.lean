/- Layer 4 by plain functions: blanks between, what stands behind an error, numbers in all ways. No program stands in here. -/
import Derived.Test.YtliebhpddjbjeaaGreatDoorLxT
namespace Go.Proofs.YtliebhpddjbjeaaGreatDoor
open Go
set_option linter.unusedVariables false
set_option maxRecDepth 10000

/-- What is put between tokens. -/
def sepsL : List (List UInt8) := [[32], [10], [9, 13], [40, 42, 42, 41], [40, 42, 32, 97, 32, 40, 42, 32, 98, 32, 42, 41, 32, 10, 32, 99, 32, 42, 41], [32, 40, 42, 39, 42, 41, 32]]
theorem stp_cmt (s : List UInt8) (n : Nat) (h0 : isBl (s.headD 0) = false) (h : s.take 2 = [40, 42]) (hc : cmt 0 s = some n) : stp s = (none, n, 0) := by
  unfold stp
  rw [if_neg (by rw [h0]; decide), if_pos h, hc]
theorem sep_scan (q : List UInt8) (hq : q ∈ sepsL) (rest : List UInt8) (off : Nat) : sepOk (q ++ rest) ∧ scanS off (q ++ rest) = scanS (off + q.length) rest := by
  have one : ∀ (b : UInt8) (r : List UInt8) (o : Nat), isBl b = true → scanS o (b :: r) = scanS (o + 1) r := fun b r o hb => by
    have := scanS_skip o (b :: r) (by simp) 1 (by unfold stp; rw [show (b :: r).headD 0 = b from rfl, if_pos hb])
    exact this
  have com : ∀ (k r : List UInt8) (o : Nat), k.take 2 = [40, 42] → 2 ≤ k.length → cmt 0 k = some k.length → scanS o (k ++ r) = scanS (o + k.length) r := fun k r o h1 h2 h3 => by
    have hh : k.headD 0 = 40 := by
      cases k with
      | nil => simp at h2
      | cons c l => cases l with
        | nil => simp at h2
        | cons d l => simp at h1; exact h1.1
    have hne : k ++ r ≠ [] := fun e => by simp at e; rw [e.1] at h2; simp at h2
    have hhd : (k ++ r).headD 0 = 40 := by
      cases k with
      | nil => simp at h2
      | cons c l => exact hh
    have ht : (k ++ r).take 2 = [40, 42] := by rw [List.take_append_of_le_length h2]; exact h1
    have := scanS_skip o (k ++ r) hne k.length (stp_cmt _ _ (by rw [hhd]; rfl) ht (cmt_more k r 0 _ h3))
    rw [List.drop_left] at this
    exact this
  unfold sepsL at hq
  simp only [List.mem_cons, List.not_mem_nil, or_false] at hq
  rcases hq with rfl | rfl | rfl | rfl | rfl | rfl
  · exact ⟨fun c hc => .inr (.inr (.inr (.inl (Option.some.inj hc).symm))), one 32 rest off rfl⟩
  · exact ⟨fun c hc => .inr (.inl (Option.some.inj hc).symm), one 10 rest off rfl⟩
  · refine ⟨fun c hc => .inl (Option.some.inj hc).symm, ?_⟩
    show scanS off (9 :: 13 :: rest) = _
    rw [one 9 (13 :: rest) off rfl, one 13 rest (off + 1) rfl]; rfl
  · exact ⟨fun c hc => .inr (.inr (.inr (.inr (Option.some.inj hc).symm))), com [40, 42, 42, 41] rest off rfl (by decide) (by decide)⟩
  · exact ⟨fun c hc => .inr (.inr (.inr (.inr (Option.some.inj hc).symm))), com _ rest off rfl (by decide) (by decide)⟩
  · refine ⟨fun c hc => .inr (.inr (.inr (.inl (Option.some.inj hc).symm))), ?_⟩
    show scanS off (32 :: ([40, 42, 39, 42, 41] ++ 32 :: rest)) = _
    rw [one 32 _ off rfl, com [40, 42, 39, 42, 41] (32 :: rest) (off + 1) rfl (by decide) (by decide), one 32 rest _ rfl]; rfl
/-- Tokens, each with what is put behind it. -/
def blT : List (T0 × List UInt8) → List UInt8
  | [] => []
  | x :: r => txtT x.1 ++ (x.2 ++ blT r)
theorem blanks_back : ∀ (l : List (T0 × List UInt8)) (off : Nat), (∀ x ∈ l, tokOk x.1 ∧ x.2 ∈ sepsL) → (scanS off (blT l)).1.map (·.1) = l.map (·.1) ∧ (scanS off (blT l)).2.2 = 0
  | [], off, _ => ⟨rfl, rfl⟩
  | x :: r, off, h => by
    obtain ⟨h1, h2⟩ := h x (by simp)
    obtain ⟨s1, s2⟩ := sep_scan x.2 h2 (blT r) (off + (txtT x.1).length)
    have hb := resc x.1 h1 (x.2 ++ blT r) s1
    have hne : txtT x.1 ++ (x.2 ++ blT r) ≠ [] := fun k => by
      have : (stp []).1 = none := rfl
      rw [k] at hb
      rw [hb] at this; cases this
    obtain ⟨i1, i2⟩ := blanks_back r (off + (txtT x.1).length + x.2.length) (fun y hy => h y (List.mem_cons_of_mem x hy))
    show (scanS off (txtT x.1 ++ (x.2 ++ blT r))).1.map (·.1) = x.1 :: r.map (·.1) ∧ (scanS off (txtT x.1 ++ (x.2 ++ blT r))).2.2 = 0
    rw [scanS_tok off _ hne x.1 _ _ hb, List.drop_left, s2]
    simp only [List.map_cons, i1]
    exact ⟨trivial, i2⟩
theorem take2_more (s x : List UInt8) (hs : s ≠ []) (v : List UInt8) (hv : v.length = 2) (h10 : v.getLast? ≠ some 10) : ((s ++ 10 :: x).take 2 = v) ↔ (s.take 2 = v) := by
  cases s with
  | nil => exact absurd rfl hs
  | cons c r => cases r with
    | nil =>
      constructor
      · intro e
        have e' : [c, 10] = v := e
        exact absurd (by rw [← e']; rfl) h10
      · intro e
        have e' : [c] = v := e
        rw [← e'] at hv; simp at hv
    | cons d r => exact Iff.rfl
theorem symb_more (s x : List UInt8) (hs : s ≠ []) : symb (s ++ 10 :: x) = symb s := by
  have h2 : syms2.contains ((s ++ 10 :: x).take 2) = syms2.contains (s.take 2) := by
    rw [Bool.eq_iff_iff, List.contains_iff_mem, List.contains_iff_mem]
    unfold syms2
    simp only [List.mem_cons, List.not_mem_nil, or_false]
    rw [take2_more s x hs [58, 61] rfl (by decide), take2_more s x hs [60, 62] rfl (by decide), take2_more s x hs [60, 61] rfl (by decide), take2_more s x hs [62, 61] rfl (by decide), take2_more s x hs [46, 46] rfl (by decide)]
  have h1 : (s ++ 10 :: x).headD 0 = s.headD 0 := by
    cases s with
    | nil => exact absurd rfl hs
    | cons c r => rfl
  unfold symb
  rw [h2, h1]
theorem head_more (s x : List UInt8) (k : UInt8) (h : k ≠ 10) : ((s ++ 10 :: x).head? = some k) ↔ (s.head? = some k) := by
  cases s with
  | nil =>
    constructor
    · intro e; exact absurd (Option.some.inj e).symm h
    · intro e; cases e
  | cons c r => exact Iff.rfl
/-- A line end, and anything behind it, makes no difference to a step that is no comment's error. -/
theorem stp_more (s x : List UInt8) (hs : s ≠ []) (o : Option T0) (n : Nat) (e : Int) (h : stp s = (o, n, e)) (he : e ≠ 43) : stp (s ++ 10 :: x) = (o, n, e) := by
  cases s with
  | nil => exact absurd rfl hs
  | cons c r =>
    have hne : (c :: r) ≠ [] := by simp
    have hcons : (c :: r) ++ 10 :: x = c :: (r ++ 10 :: x) := rfl
    by_cases h3 : isLt c = true
    · rw [stp_letter c r h3] at h
      have := stp_letter c (r ++ 10 :: x) h3
      rw [← hcons, tw_more isAn (c :: r) (10 :: x) (fun b hb => by rw [← Option.some.inj hb]; rfl)] at this
      rw [this]; exact h
    · have h3' : isLt c = false := by simpa using h3
      by_cases h4 : isDg c = true
      · rw [stp_digit c r h4] at h
        have := stp_digit c (r ++ 10 :: x) h4
        have htw := tw_more isHx (c :: r) (10 :: x) (fun b hb => by rw [← Option.some.inj hb]; rfl)
        have hle := tw_len isHx (c :: r)
        have hn : numS ((c :: r) ++ 10 :: x) = numS (c :: r) := by
          unfold numS
          rw [htw, List.drop_append_of_le_length hle]
          by_cases k : ((c :: r).drop ((c :: r).takeWhile isHx).length).head? = some 72
          · rw [if_pos k, if_pos ((head_more _ _ 72 (by decide)).2 k)]
          · rw [if_neg k, if_neg (fun k2 => k ((head_more _ _ 72 (by decide)).1 k2))]
        rw [← hcons, hn] at this
        rw [this]; exact h
      · have h4' : isDg c = false := by simpa using h4
        by_cases h5 : c = 34 ∨ c = 39
        · rw [stp_quote c r h5] at h
          have := stp_quote c (r ++ 10 :: x) h5
          have hx : strS c (r ++ 10 :: x) = strS c r := by
            unfold strS
            exact tw_more _ r (10 :: x) (fun b hb => by rw [← Option.some.inj hb]; simp)
          have hc10 : c ≠ 10 := by rcases h5 with rfl | rfl <;> decide
          have hle : (strS c r).length ≤ r.length := tw_len _ r
          rw [hx, List.drop_append_of_le_length hle] at this
          rw [hcons, this]
          by_cases k : (r.drop (strS c r).length).head? = some c
          · rw [if_pos k] at h
            rw [if_pos ((head_more _ _ c hc10).2 k)]; exact h
          · rw [if_neg k] at h
            rw [if_neg (fun k2 => k ((head_more _ _ c hc10).1 k2))]; exact h
        · by_cases h1 : isBl c = true
          · unfold stp at h ⊢
            rw [show (c :: r).headD 0 = c from rfl, if_pos h1] at h
            rw [show ((c :: r) ++ 10 :: x).headD 0 = c from rfl, if_pos h1]
            exact h
          · have h1' : isBl c = false := by simpa using h1
            by_cases h2 : (c :: r).take 2 = [40, 42]
            · have h2' := (take2_more (c :: r) x hne [40, 42] rfl (by decide)).2 h2
              unfold stp at h
              rw [show (c :: r).headD 0 = c from rfl, if_neg h1, if_pos h2] at h
              cases hq : cmt 0 (c :: r) with
              | none =>
                rw [hq] at h
                injection h with _ h
                injection h with _ h
                exact absurd h.symm he
              | some m =>
                rw [hq] at h
                rw [stp_cmt _ m (show isBl (((c :: r) ++ 10 :: x).headD 0) = false from h1') h2' (cmt_more _ _ _ _ hq)]; exact h
            · have h2' : ¬ ((c :: r) ++ 10 :: x).take 2 = [40, 42] := fun k => h2 ((take2_more (c :: r) x hne [40, 42] rfl (by decide)).1 k)
              rw [stp_other c r h1' h2 h3' h4' h5] at h
              rw [hcons] at h2'
              have := stp_other c (r ++ 10 :: x) h1' h2' h3' h4' h5
              rw [← hcons, symb_more (c :: r) x hne] at this
              rw [this]
              split at h
              · rename_i h0; rw [if_pos h0]; exact h
              · rename_i h0
                rw [if_neg h0]
                obtain ⟨_, _, k3, _⟩ := sym_cases c r h0
                rw [List.take_append_of_le_length k3]; exact h
/-- WHAT STANDS BEHIND AN ERROR MAKES NO DIFFERENCE TO IT, if it is no comment's. -/
theorem scan_more : ∀ (m : Nat) (s x : List UInt8) (off : Nat), s.length ≤ m → (scanS off s).2.2 ≠ 0 → (scanS off s).2.2 ≠ 43 → (scanS off (s ++ 10 :: x)).2 = (scanS off s).2
  | _, [], x, off, _, h, _ => by rw [scanS_nil] at h; exact absurd rfl h
  | 0, c :: r, x, off, hl, _, _ => by simp at hl
  | m + 1, c :: r, x, off, hl, h, h43 => by
    have hne : (c :: r) ≠ [] := by simp
    have hne2 : (c :: r) ++ 10 :: x ≠ [] := by simp
    have hcl : (c :: r).length = r.length + 1 := rfl
    rcases hq : stp (c :: r) with ⟨o, n, e⟩
    cases o with
    | some t =>
      obtain ⟨k0, k1, k2, k3, k4⟩ := stp_ok _ hne t n e hq
      have hq2 := stp_more (c :: r) x hne _ n e hq (by omega)
      rw [scanS_tok off _ hne t n e hq] at h h43 ⊢
      rw [scanS_tok off _ hne2 t n e hq2, List.drop_append_of_le_length k2]
      exact scan_more m ((c :: r).drop n) x (off + n) (by rw [List.length_drop]; omega) h h43
    | none =>
      by_cases he : e = 0
      · subst he
        obtain ⟨k1, k2⟩ := stp_skip _ hne n hq
        have hq2 := stp_more (c :: r) x hne _ n 0 hq (by omega)
        rw [scanS_skip off _ hne n hq] at h h43 ⊢
        rw [scanS_skip off _ hne2 n hq2, List.drop_append_of_le_length k2]
        exact scan_more m ((c :: r).drop n) x (off + n) (by rw [List.length_drop]; omega) h h43
      · have h43' : e ≠ 43 := by
          rw [scanS_err off _ hne n e he hq] at h43; exact h43
        rw [scanS_err off _ hne n e he hq, scanS_err off _ hne2 n e he (stp_more (c :: r) x hne _ n e hq h43')]
end Go.Proofs.YtliebhpddjbjeaaGreatDoor
