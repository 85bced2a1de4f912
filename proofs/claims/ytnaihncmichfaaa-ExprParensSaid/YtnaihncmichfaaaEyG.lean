/- Layer 4 by plain functions: what stands behind a source that has no error, and parentheses. No program stands in here. -/
import Derived.Test.YtnaihncmichfaaaMpA
namespace Go.Proofs.Ytnaihncmichfaaa
open Go
set_option maxHeartbeats 1000000
set_option linter.unusedVariables false
set_option linter.unusedSimpArgs false
set_option maxRecDepth 10000

/-- What may stand directly behind a text: a blank, or what closes, or a comma. -/
def folB (c : UInt8) : Bool := c == 32 || c == 41 || c == 44 || c == 93
theorem fol_cases {c : UInt8} (h : folB c = true) : c = 32 ∨ c = 41 ∨ c = 44 ∨ c = 93 := by
  unfold folB at h
  simp only [Bool.or_eq_true, beq_iff_eq] at h
  rcases h with ((h | h) | h) | h
  · exact .inl h
  · exact .inr (.inl h)
  · exact .inr (.inr (.inl h))
  · exact .inr (.inr (.inr h))
theorem take2_fol (s x : List UInt8) (c0 : UInt8) (hs : s ≠ []) (v : List UInt8) (hv : v.length = 2) (hl : v.getLast? ≠ some c0) : ((s ++ c0 :: x).take 2 = v) ↔ (s.take 2 = v) := by
  cases s with
  | nil => exact absurd rfl hs
  | cons c r => cases r with
    | nil =>
      constructor
      · intro e
        have e' : [c, c0] = v := e
        exact absurd (by rw [← e']; rfl) hl
      · intro e
        have e' : [c] = v := e
        rw [← e'] at hv; simp at hv
    | cons d r => exact Iff.rfl
theorem fol_last {c0 : UInt8} (h : folB c0 = true) : some (61 : UInt8) ≠ some c0 ∧ some (62 : UInt8) ≠ some c0 ∧ some (46 : UInt8) ≠ some c0 ∧ some (42 : UInt8) ≠ some c0 := by
  rcases fol_cases h with rfl | rfl | rfl | rfl <;> decide
theorem symb_fol (s x : List UInt8) {c0 : UInt8} (hc : folB c0 = true) (hs : s ≠ []) : symb (s ++ c0 :: x) = symb s := by
  obtain ⟨f1, f2, f3, f4⟩ := fol_last hc
  have h2 : syms2.contains ((s ++ c0 :: x).take 2) = syms2.contains (s.take 2) := by
    rw [Bool.eq_iff_iff, List.contains_iff_mem, List.contains_iff_mem]
    unfold syms2
    simp only [List.mem_cons, List.not_mem_nil, or_false]
    rw [take2_fol s x c0 hs [58, 61] rfl f1, take2_fol s x c0 hs [60, 62] rfl f2, take2_fol s x c0 hs [60, 61] rfl f1, take2_fol s x c0 hs [62, 61] rfl f1, take2_fol s x c0 hs [46, 46] rfl f3]
  have h1 : (s ++ c0 :: x).headD 0 = s.headD 0 := by
    cases s with
    | nil => exact absurd rfl hs
    | cons c r => rfl
  unfold symb
  rw [h2, h1]
theorem head_fol (s x : List UInt8) (c0 k : UInt8) (h : k ≠ c0) : ((s ++ c0 :: x).head? = some k) ↔ (s.head? = some k) := by
  cases s with
  | nil =>
    constructor
    · intro e; exact absurd (Option.some.inj e).symm h
    · intro e; cases e
  | cons c r => exact Iff.rfl
/-- A run that ends within a text is the same, whatever stands behind the text. -/
theorem tw_stop (p : UInt8 → Bool) : ∀ (r y : List UInt8) (c : UInt8), (r.drop (r.takeWhile p).length).head? = some c → (r ++ y).takeWhile p = r.takeWhile p ∧ ((r ++ y).drop (r.takeWhile p).length).head? = some c
  | [], y, c, h => by simp at h
  | a :: r, y, c, h => by
    by_cases hp : p a = true
    · have e : (a :: r).takeWhile p = a :: r.takeWhile p := by simp [List.takeWhile, hp]
      rw [e] at h ⊢
      have h' : (r.drop (r.takeWhile p).length).head? = some c := h
      obtain ⟨i1, i2⟩ := tw_stop p r y c h'
      refine ⟨?_, i2⟩
      rw [List.cons_append]
      simp only [List.takeWhile, hp]
      rw [i1]
    · have hp' : p a = false := by simpa using hp
      have e : (a :: r).takeWhile p = [] := by simp [List.takeWhile, hp']
      rw [e] at h ⊢
      refine ⟨?_, h⟩
      rw [List.cons_append]
      simp only [List.takeWhile, hp']
/-- What may stand behind a text makes no difference to a step that is no error. -/
theorem stp_fol (s x : List UInt8) {c0 : UInt8} (hc : folB c0 = true) (hs : s ≠ []) (o : Option T0) (n : Nat) (h : stp s = (o, n, 0)) : stp (s ++ c0 :: x) = (o, n, 0) := by
  obtain ⟨f1, f2, f3, f4⟩ := fol_last hc
  have fa : isAn c0 = false := by rcases fol_cases hc with rfl | rfl | rfl | rfl <;> decide
  have fh : isHx c0 = false := by rcases fol_cases hc with rfl | rfl | rfl | rfl <;> decide
  have f72 : (72 : UInt8) ≠ c0 := by rcases fol_cases hc with rfl | rfl | rfl | rfl <;> decide
  cases s with
  | nil => exact absurd rfl hs
  | cons c r =>
    have hne : (c :: r) ≠ [] := by simp
    have hcons : (c :: r) ++ c0 :: x = c :: (r ++ c0 :: x) := rfl
    by_cases h3 : isLt c = true
    · rw [stp_letter c r h3] at h
      have := stp_letter c (r ++ c0 :: x) h3
      rw [← hcons, tw_more isAn (c :: r) (c0 :: x) (fun b hb => by rw [← Option.some.inj hb]; exact fa)] at this
      rw [this]; exact h
    · have h3' : isLt c = false := by simpa using h3
      by_cases h4 : isDg c = true
      · rw [stp_digit c r h4] at h
        have := stp_digit c (r ++ c0 :: x) h4
        have htw := tw_more isHx (c :: r) (c0 :: x) (fun b hb => by rw [← Option.some.inj hb]; exact fh)
        have hle := tw_len isHx (c :: r)
        have hn : numS ((c :: r) ++ c0 :: x) = numS (c :: r) := by
          unfold numS
          rw [htw, List.drop_append_of_le_length hle]
          by_cases k : ((c :: r).drop ((c :: r).takeWhile isHx).length).head? = some 72
          · rw [if_pos k, if_pos ((head_fol _ _ c0 72 f72).2 k)]
          · rw [if_neg k, if_neg (fun k2 => k ((head_fol _ _ c0 72 f72).1 k2))]
        rw [← hcons, hn] at this
        rw [this]; exact h
      · have h4' : isDg c = false := by simpa using h4
        by_cases h5 : c = 34 ∨ c = 39
        · rw [stp_quote c r h5] at h
          have := stp_quote c (r ++ c0 :: x) h5
          by_cases k : (r.drop (strS c r).length).head? = some c
          · obtain ⟨i1, i2⟩ := tw_stop (fun b => b != c && b != 10) r (c0 :: x) c k
            have hx : strS c (r ++ c0 :: x) = strS c r := i1
            rw [hx] at this
            rw [hcons, this]
            rw [if_pos k] at h
            rw [if_pos (show ((r ++ c0 :: x).drop (strS c r).length).head? = some c from i2)]
            exact h
          · rw [if_neg k] at h
            injection h with _ h
            injection h with _ h
            exact absurd h (by decide)
        · by_cases h1 : isBl c = true
          · unfold stp at h ⊢
            rw [show (c :: r).headD 0 = c from rfl, if_pos h1] at h
            rw [show ((c :: r) ++ c0 :: x).headD 0 = c from rfl, if_pos h1]
            exact h
          · have h1' : isBl c = false := by simpa using h1
            by_cases h2 : (c :: r).take 2 = [40, 42]
            · have h2' := (take2_fol (c :: r) x c0 hne [40, 42] rfl f4).2 h2
              unfold stp at h
              rw [show (c :: r).headD 0 = c from rfl, if_neg h1, if_pos h2] at h
              cases hq : cmt 0 (c :: r) with
              | none =>
                rw [hq] at h
                injection h with _ h
                injection h with _ h
                exact absurd h (by decide)
              | some m =>
                rw [hq] at h
                rw [stp_cmt _ m (show isBl (((c :: r) ++ c0 :: x).headD 0) = false from h1') h2' (cmt_more _ _ _ _ hq)]; exact h
            · have h2' : ¬ ((c :: r) ++ c0 :: x).take 2 = [40, 42] := fun k => h2 ((take2_fol (c :: r) x c0 hne [40, 42] rfl f4).1 k)
              rw [stp_other c r h1' h2 h3' h4' h5] at h
              rw [hcons] at h2'
              have := stp_other c (r ++ c0 :: x) h1' h2' h3' h4' h5
              rw [← hcons, symb_fol (c :: r) x hc hne] at this
              rw [this]
              split at h
              · rename_i h0; rw [if_pos h0]; exact h
              · rename_i h0
                rw [if_neg h0]
                obtain ⟨_, _, k3, _⟩ := sym_cases c r h0
                rw [List.take_append_of_le_length k3]; exact h
/-- A SOURCE WITHOUT AN ERROR, AND MORE BEHIND IT: its tokens, and what is scanned behind. -/
theorem scan_fol {c0 : UInt8} (hc : folB c0 = true) : ∀ (m : Nat) (s x : List UInt8) (off : Nat), s.length ≤ m → (scanS off s).2.2 = 0 → scanS off (s ++ c0 :: x) = ((scanS off s).1 ++ (scanS (off + s.length) (c0 :: x)).1, (scanS (off + s.length) (c0 :: x)).2)
  | _, [], x, off, _, h => by rw [scanS_nil]; rfl
  | 0, c :: r, x, off, hl, _ => by simp at hl
  | m + 1, c :: r, x, off, hl, h => by
    have hne : (c :: r) ≠ [] := by simp
    have hne2 : (c :: r) ++ c0 :: x ≠ [] := by simp
    have hcl : (c :: r).length = r.length + 1 := rfl
    rcases hq : stp (c :: r) with ⟨o, n, e⟩
    cases o with
    | some t =>
      obtain ⟨k0, k1, k2, k3, k4⟩ := stp_ok _ hne t n e hq
      subst k4
      have hq2 := stp_fol (c :: r) x hc hne _ n hq
      rw [scanS_tok off _ hne t n 0 hq] at h ⊢
      rw [scanS_tok off _ hne2 t n 0 hq2, List.drop_append_of_le_length k2]
      rw [scan_fol hc m ((c :: r).drop n) x (off + n) (by rw [List.length_drop]; omega) h]
      rw [List.length_drop, show off + n + ((c :: r).length - n) = off + (c :: r).length by omega]
      rfl
    | none =>
      by_cases he : e = 0
      · subst he
        obtain ⟨k1, k2⟩ := stp_skip _ hne n hq
        have hq2 := stp_fol (c :: r) x hc hne _ n hq
        rw [scanS_skip off _ hne n hq] at h ⊢
        rw [scanS_skip off _ hne2 n hq2, List.drop_append_of_le_length k2]
        rw [scan_fol hc m ((c :: r).drop n) x (off + n) (by rw [List.length_drop]; omega) h]
        rw [List.length_drop, show off + n + ((c :: r).length - n) = off + (c :: r).length by omega]
      · rw [scanS_err off _ hne n e he hq] at h
        exact absurd h he
/-- A step on one symbol that begins no longer one. -/
theorem stp_one (c : UInt8) (r : List UInt8) (h0 : isBl c = false) (h1 : isLt c = false) (h2 : isDg c = false) (h3 : ¬ (c = 34 ∨ c = 39)) (h4 : (c :: r).take 2 ≠ [40, 42]) (h5 : symb (c :: r) = 1) : stp (c :: r) = (some (plainT [c]), 1, 0) := by
  rw [stp_other c r h0 h4 h1 h2 h3, h5]
  rfl
theorem stp_open (r : List UInt8) (h : r.head? ≠ some 42) : stp (40 :: r) = (some ⟨5, [40], 0⟩, 1, 0) := by
  refine stp_one 40 r (by decide) (by decide) (by decide) (by decide) ?_ ?_
  · cases r with
    | nil => simp
    | cons a r => intro e; injection e with _ e; injection e with e _; exact h (by rw [e]; rfl)
  · unfold symb
    rw [if_neg]
    · rfl
    · rw [List.contains_iff_mem]
      unfold syms2
      cases r with
      | nil => simp
      | cons a r => simp
theorem stp_close (r : List UInt8) : stp (41 :: r) = (some ⟨5, [41], 0⟩, 1, 0) := by
  refine stp_one 41 r (by decide) (by decide) (by decide) (by decide) ?_ ?_
  · cases r with
    | nil => simp
    | cons a r => simp
  · unfold symb
    rw [if_neg]
    · rfl
    · rw [List.contains_iff_mem]
      unfold syms2
      cases r with
      | nil => simp
      | cons a r => simp
theorem stp_space (r : List UInt8) : stp (32 :: r) = (none, 1, 0) := by
  unfold stp
  rw [show (32 :: r).headD (0 : UInt8) = 32 from rfl, if_pos (by decide)]
/-- Where a source begins makes no difference but to places. -/
theorem scan_off : ∀ (m : Nat) (s : List UInt8) (a b : Nat), s.length ≤ m → (scanS a s).1.map (·.1) = (scanS b s).1.map (·.1) ∧ (scanS a s).2.2 = (scanS b s).2.2
  | _, [], a, b, _ => by rw [scanS_nil, scanS_nil]; exact ⟨rfl, rfl⟩
  | 0, c :: r, a, b, hl => by simp at hl
  | m + 1, c :: r, a, b, hl => by
    have hne : (c :: r) ≠ [] := by simp
    have hcl : (c :: r).length = r.length + 1 := rfl
    rcases hq : stp (c :: r) with ⟨o, n, e⟩
    cases o with
    | some t =>
      obtain ⟨k0, k1, k2, k3, k4⟩ := stp_ok _ hne t n e hq
      rw [scanS_tok a _ hne t n e hq, scanS_tok b _ hne t n e hq]
      obtain ⟨i1, i2⟩ := scan_off m ((c :: r).drop n) (a + n) (b + n) (by rw [List.length_drop]; omega)
      exact ⟨by simp only [List.map_cons, i1], i2⟩
    | none =>
      by_cases he : e = 0
      · subst he
        obtain ⟨k1, k2⟩ := stp_skip _ hne n hq
        rw [scanS_skip a _ hne n hq, scanS_skip b _ hne n hq]
        exact scan_off m ((c :: r).drop n) (a + n) (b + n) (by rw [List.length_drop]; omega)
      · rw [scanS_err a _ hne n e he hq, scanS_err b _ hne n e he hq]
        exact ⟨rfl, rfl⟩
end Go.Proofs.Ytnaihncmichfaaa
