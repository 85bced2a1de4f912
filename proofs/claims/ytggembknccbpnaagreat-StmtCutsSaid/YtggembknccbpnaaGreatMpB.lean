/- Several texts in one. -/
import Derived.Test.YtggembknccbpnaaGreatMpA
import Derived.Test.YtggembknccbpnaaGreatExX
/- Layer 4 by plain functions: what stands behind a source that has no error, and parentheses. No program stands in here. -/
namespace Go.Proofs.YtggembknccbpnaaGreat
open Go
set_option maxHeartbeats 1000000
set_option linter.unusedVariables false
set_option linter.unusedSimpArgs false
set_option maxRecDepth 10000

/-- What may stand directly behind a text: a blank, or what closes, or a comma. -/
def folB (c : UInt8) : Bool := c == 32 || c == 41 || c == 44 || c == 93 || c == 125
theorem fol_cases {c : UInt8} (h : folB c = true) : c = 32 ∨ c = 41 ∨ c = 44 ∨ c = 93 ∨ c = 125 := by
  unfold folB at h
  simp only [Bool.or_eq_true, beq_iff_eq] at h
  rcases h with (((h | h) | h) | h) | h
  · exact .inl h
  · exact .inr (.inl h)
  · exact .inr (.inr (.inl h))
  · exact .inr (.inr (.inr (.inl h)))
  · exact .inr (.inr (.inr (.inr h)))
theorem take2_fol (s x : List UInt8) (c0 : UInt8) (hs : s ≠ []) (v : List UInt8) (hv : v.length = 2) (hl : v.getLast? ≠ some c0) : ((s ++ c0 :: x).take 2 = v) ↔ (s.take 2 = v) := by
  cases s with
  | nil => exact absurd rfl hs
  | cons c r => cases r with
    | nil =>
      constructor
      · intro e
        have e' : [c, c0] = v := e
        exact absurd (by rw [← e']; rfl) hl
      · intro e
        have e' : [c] = v := e
        rw [← e'] at hv; simp at hv
    | cons d r => exact Iff.rfl
theorem fol_last {c0 : UInt8} (h : folB c0 = true) : some (61 : UInt8) ≠ some c0 ∧ some (62 : UInt8) ≠ some c0 ∧ some (46 : UInt8) ≠ some c0 ∧ some (42 : UInt8) ≠ some c0 := by
  rcases fol_cases h with rfl | rfl | rfl | rfl | rfl <;> decide
theorem symb_fol (s x : List UInt8) {c0 : UInt8} (hc : folB c0 = true) (hs : s ≠ []) : symb (s ++ c0 :: x) = symb s := by
  obtain ⟨f1, f2, f3, f4⟩ := fol_last hc
  have h2 : syms2.contains ((s ++ c0 :: x).take 2) = syms2.contains (s.take 2) := by
    rw [Bool.eq_iff_iff, List.contains_iff_mem, List.contains_iff_mem]
    unfold syms2
    simp only [List.mem_cons, List.not_mem_nil, or_false]
    rw [take2_fol s x c0 hs [58, 61] rfl f1, take2_fol s x c0 hs [60, 62] rfl f2, take2_fol s x c0 hs [60, 61] rfl f1, take2_fol s x c0 hs [62, 61] rfl f1, take2_fol s x c0 hs [46, 46] rfl f3]
  have h1 : (s ++ c0 :: x).headD 0 = s.headD 0 := by
    cases s with
    | nil => exact absurd rfl hs
    | cons c r => rfl
  unfold symb
  rw [h2, h1]
theorem head_fol (s x : List UInt8) (c0 k : UInt8) (h : k ≠ c0) : ((s ++ c0 :: x).head? = some k) ↔ (s.head? = some k) := by
  cases s with
  | nil =>
    constructor
    · intro e; exact absurd (Option.some.inj e).symm h
    · intro e; cases e
  | cons c r => exact Iff.rfl
/-- A run that ends within a text is the same, whatever stands behind the text. -/
theorem tw_stop (p : UInt8 → Bool) : ∀ (r y : List UInt8) (c : UInt8), (r.drop (r.takeWhile p).length).head? = some c → (r ++ y).takeWhile p = r.takeWhile p ∧ ((r ++ y).drop (r.takeWhile p).length).head? = some c
  | [], y, c, h => by simp at h
  | a :: r, y, c, h => by
    by_cases hp : p a = true
    · have e : (a :: r).takeWhile p = a :: r.takeWhile p := by simp [List.takeWhile, hp]
      rw [e] at h ⊢
      have h' : (r.drop (r.takeWhile p).length).head? = some c := h
      obtain ⟨i1, i2⟩ := tw_stop p r y c h'
      refine ⟨?_, i2⟩
      rw [List.cons_append]
      simp only [List.takeWhile, hp]
      rw [i1]
    · have hp' : p a = false := by simpa using hp
      have e : (a :: r).takeWhile p = [] := by simp [List.takeWhile, hp']
      rw [e] at h ⊢
      refine ⟨?_, h⟩
      rw [List.cons_append]
      simp only [List.takeWhile, hp']
/-- What may stand behind a text makes no difference to a step that is no error. -/
theorem stp_fol (s x : List UInt8) {c0 : UInt8} (hc : folB c0 = true) (hs : s ≠ []) (o : Option T0) (n : Nat) (h : stp s = (o, n, 0)) : stp (s ++ c0 :: x) = (o, n, 0) := by
  obtain ⟨f1, f2, f3, f4⟩ := fol_last hc
  have fa : isAn c0 = false := by rcases fol_cases hc with rfl | rfl | rfl | rfl | rfl <;> decide
  have fh : isHx c0 = false := by rcases fol_cases hc with rfl | rfl | rfl | rfl | rfl <;> decide
  have f72 : (72 : UInt8) ≠ c0 := by rcases fol_cases hc with rfl | rfl | rfl | rfl | rfl <;> decide
  cases s with
  | nil => exact absurd rfl hs
  | cons c r =>
    have hne : (c :: r) ≠ [] := by simp
    have hcons : (c :: r) ++ c0 :: x = c :: (r ++ c0 :: x) := rfl
    by_cases h3 : isLt c = true
    · rw [stp_letter c r h3] at h
      have := stp_letter c (r ++ c0 :: x) h3
      rw [← hcons, tw_more isAn (c :: r) (c0 :: x) (fun b hb => by rw [← Option.some.inj hb]; exact fa)] at this
      rw [this]; exact h
    · have h3' : isLt c = false := by simpa using h3
      by_cases h4 : isDg c = true
      · rw [stp_digit c r h4] at h
        have := stp_digit c (r ++ c0 :: x) h4
        have htw := tw_more isHx (c :: r) (c0 :: x) (fun b hb => by rw [← Option.some.inj hb]; exact fh)
        have hle := tw_len isHx (c :: r)
        have hn : numS ((c :: r) ++ c0 :: x) = numS (c :: r) := by
          unfold numS
          rw [htw, List.drop_append_of_le_length hle]
          by_cases k : ((c :: r).drop ((c :: r).takeWhile isHx).length).head? = some 72
          · rw [if_pos k, if_pos ((head_fol _ _ c0 72 f72).2 k)]
          · rw [if_neg k, if_neg (fun k2 => k ((head_fol _ _ c0 72 f72).1 k2))]
        rw [← hcons, hn] at this
        rw [this]; exact h
      · have h4' : isDg c = false := by simpa using h4
        by_cases h5 : c = 34 ∨ c = 39
        · rw [stp_quote c r h5] at h
          have := stp_quote c (r ++ c0 :: x) h5
          by_cases k : (r.drop (strS c r).length).head? = some c
          · obtain ⟨i1, i2⟩ := tw_stop (fun b => b != c && b != 10) r (c0 :: x) c k
            have hx : strS c (r ++ c0 :: x) = strS c r := i1
            rw [hx] at this
            rw [hcons, this]
            rw [if_pos k] at h
            rw [if_pos (show ((r ++ c0 :: x).drop (strS c r).length).head? = some c from i2)]
            exact h
          · rw [if_neg k] at h
            injection h with _ h
            injection h with _ h
            exact absurd h (by decide)
        · by_cases h1 : isBl c = true
          · unfold stp at h ⊢
            rw [show (c :: r).headD 0 = c from rfl, if_pos h1] at h
            rw [show ((c :: r) ++ c0 :: x).headD 0 = c from rfl, if_pos h1]
            exact h
          · have h1' : isBl c = false := by simpa using h1
            by_cases h2 : (c :: r).take 2 = [40, 42]
            · have h2' := (take2_fol (c :: r) x c0 hne [40, 42] rfl f4).2 h2
              unfold stp at h
              rw [show (c :: r).headD 0 = c from rfl, if_neg h1, if_pos h2] at h
              cases hq : cmt 0 (c :: r) with
              | none =>
                rw [hq] at h
                injection h with _ h
                injection h with _ h
                exact absurd h (by decide)
              | some m =>
                rw [hq] at h
                rw [stp_cmt _ m (show isBl (((c :: r) ++ c0 :: x).headD 0) = false from h1') h2' (cmt_more _ _ _ _ hq)]; exact h
            · have h2' : ¬ ((c :: r) ++ c0 :: x).take 2 = [40, 42] := fun k => h2 ((take2_fol (c :: r) x c0 hne [40, 42] rfl f4).1 k)
              rw [stp_other c r h1' h2 h3' h4' h5] at h
              rw [hcons] at h2'
              have := stp_other c (r ++ c0 :: x) h1' h2' h3' h4' h5
              rw [← hcons, symb_fol (c :: r) x hc hne] at this
              rw [this]
              split at h
              · rename_i h0; rw [if_pos h0]; exact h
              · rename_i h0
                rw [if_neg h0]
                obtain ⟨_, _, k3, _⟩ := sym_cases c r h0
                rw [List.take_append_of_le_length k3]; exact h
/-- A SOURCE WITHOUT AN ERROR, AND MORE BEHIND IT: its tokens, and what is scanned behind. -/
theorem scan_fol {c0 : UInt8} (hc : folB c0 = true) : ∀ (m : Nat) (s x : List UInt8) (off : Nat), s.length ≤ m → (scanS off s).2.2 = 0 → scanS off (s ++ c0 :: x) = ((scanS off s).1 ++ (scanS (off + s.length) (c0 :: x)).1, (scanS (off + s.length) (c0 :: x)).2)
  | _, [], x, off, _, h => by rw [scanS_nil]; rfl
  | 0, c :: r, x, off, hl, _ => by simp at hl
  | m + 1, c :: r, x, off, hl, h => by
    have hne : (c :: r) ≠ [] := by simp
    have hne2 : (c :: r) ++ c0 :: x ≠ [] := by simp
    have hcl : (c :: r).length = r.length + 1 := rfl
    rcases hq : stp (c :: r) with ⟨o, n, e⟩
    cases o with
    | some t =>
      obtain ⟨k0, k1, k2, k3, k4⟩ := stp_ok _ hne t n e hq
      subst k4
      have hq2 := stp_fol (c :: r) x hc hne _ n hq
      rw [scanS_tok off _ hne t n 0 hq] at h ⊢
      rw [scanS_tok off _ hne2 t n 0 hq2, List.drop_append_of_le_length k2]
      rw [scan_fol hc m ((c :: r).drop n) x (off + n) (by rw [List.length_drop]; omega) h]
      rw [List.length_drop, show off + n + ((c :: r).length - n) = off + (c :: r).length by omega]
      rfl
    | none =>
      by_cases he : e = 0
      · subst he
        obtain ⟨k1, k2⟩ := stp_skip _ hne n hq
        have hq2 := stp_fol (c :: r) x hc hne _ n hq
        rw [scanS_skip off _ hne n hq] at h ⊢
        rw [scanS_skip off _ hne2 n hq2, List.drop_append_of_le_length k2]
        rw [scan_fol hc m ((c :: r).drop n) x (off + n) (by rw [List.length_drop]; omega) h]
        rw [List.length_drop, show off + n + ((c :: r).length - n) = off + (c :: r).length by omega]
      · rw [scanS_err off _ hne n e he hq] at h
        exact absurd h he
/-- A step on one symbol that begins no longer one. -/
theorem stp_one (c : UInt8) (r : List UInt8) (h0 : isBl c = false) (h1 : isLt c = false) (h2 : isDg c = false) (h3 : ¬ (c = 34 ∨ c = 39)) (h4 : (c :: r).take 2 ≠ [40, 42]) (h5 : symb (c :: r) = 1) : stp (c :: r) = (some (plainT [c]), 1, 0) := by
  rw [stp_other c r h0 h4 h1 h2 h3, h5]
  rfl
theorem stp_open (r : List UInt8) (h : r.head? ≠ some 42) : stp (40 :: r) = (some ⟨5, [40], 0⟩, 1, 0) := by
  refine stp_one 40 r (by decide) (by decide) (by decide) (by decide) ?_ ?_
  · cases r with
    | nil => simp
    | cons a r => intro e; injection e with _ e; injection e with e _; exact h (by rw [e]; rfl)
  · unfold symb
    rw [if_neg]
    · rfl
    · rw [List.contains_iff_mem]
      unfold syms2
      cases r with
      | nil => simp
      | cons a r => simp
theorem stp_close (r : List UInt8) : stp (41 :: r) = (some ⟨5, [41], 0⟩, 1, 0) := by
  refine stp_one 41 r (by decide) (by decide) (by decide) (by decide) ?_ ?_
  · cases r with
    | nil => simp
    | cons a r => simp
  · unfold symb
    rw [if_neg]
    · rfl
    · rw [List.contains_iff_mem]
      unfold syms2
      cases r with
      | nil => simp
      | cons a r => simp
theorem stp_space (r : List UInt8) : stp (32 :: r) = (none, 1, 0) := by
  unfold stp
  rw [show (32 :: r).headD (0 : UInt8) = 32 from rfl, if_pos (by decide)]
/-- Where a source begins makes no difference but to places. -/
theorem scan_off : ∀ (m : Nat) (s : List UInt8) (a b : Nat), s.length ≤ m → (scanS a s).1.map (·.1) = (scanS b s).1.map (·.1) ∧ (scanS a s).2.2 = (scanS b s).2.2
  | _, [], a, b, _ => by rw [scanS_nil, scanS_nil]; exact ⟨rfl, rfl⟩
  | 0, c :: r, a, b, hl => by simp at hl
  | m + 1, c :: r, a, b, hl => by
    have hne : (c :: r) ≠ [] := by simp
    have hcl : (c :: r).length = r.length + 1 := rfl
    rcases hq : stp (c :: r) with ⟨o, n, e⟩
    cases o with
    | some t =>
      obtain ⟨k0, k1, k2, k3, k4⟩ := stp_ok _ hne t n e hq
      rw [scanS_tok a _ hne t n e hq, scanS_tok b _ hne t n e hq]
      obtain ⟨i1, i2⟩ := scan_off m ((c :: r).drop n) (a + n) (b + n) (by rw [List.length_drop]; omega)
      exact ⟨by simp only [List.map_cons, i1], i2⟩
    | none =>
      by_cases he : e = 0
      · subst he
        obtain ⟨k1, k2⟩ := stp_skip _ hne n hq
        rw [scanS_skip a _ hne n hq, scanS_skip b _ hne n hq]
        exact scan_off m ((c :: r).drop n) (a + n) (b + n) (by rw [List.length_drop]; omega)
      · rw [scanS_err a _ hne n e he hq, scanS_err b _ hne n e he hq]
        exact ⟨rfl, rfl⟩
end Go.Proofs.YtggembknccbpnaaGreat
/- Layer 6 by plain functions: a row that stands in another one, with what ends an expression behind it, tells the same there. No program stands in here. -/
namespace Go.Proofs.YtggembknccbpnaaGreat
open Go.RowKit
set_option maxHeartbeats 1000000
set_option linter.unusedVariables false
set_option linter.unusedSimpArgs false

mutual
/-- The same tree, but for places. -/
def simD : DT → DT → Prop
  | .node d ks, .node e ls => (d.k = e.k ∧ d.x = e.x ∧ d.n = e.n) ∧ simL ks ls
def simL : List DT → List DT → Prop
  | [], [] => True
  | t :: r, u :: s => simD t u ∧ simL r s
  | [], _ :: _ => False
  | _ :: _, [] => False
end
theorem simL_app : ∀ {a b c d : List DT}, simL a b → simL c d → simL (a ++ c) (b ++ d)
  | [], [], _, _, _, h => h
  | t :: r, u :: s, _, _, h, h2 => ⟨h.1, simL_app h.2 h2⟩
  | [], _ :: _, _, _, h, _ => h.elim
  | _ :: _, [], _, _, h, _ => h.elim
/-- What ends an expression: no name, no number, no string, no operator, nothing that goes on. -/
def stopB (t : T0) : Bool := !(t.k == 1) && !(t.k == 2) && !(t.k == 3) && !(t.k == 4) && !(t.k == 5 && ([[46], [94], [91], [44], [46, 46], [123], [40]] : List (List UInt8)).contains t.x) &&
  !(relT.lookup t.x == some t.k) && !(signT.lookup t.x == some t.k) && !(sumT.lookup t.x == some t.k) && !(mulT.lookup t.x == some t.k) && !(notT.lookup t.x == some t.k)
/-- The row ts stands in us from k on, and what ends it behind. -/
structure Shf (k : Nat) (ts us : List TK) : Prop where
  at' : ∀ i, i < ts.length → (tk us (i + k)).1 = (tk ts i).1
  stop : stopB (tk us (ts.length + k)).1 = true
def Up (k : Nat) (r r' : Re) : Prop := ∀ d j, r = .ok d j → r' ≠ .out → ∃ d', r' = .ok d' (j + k) ∧ simD d d'
def UpL (k : Nat) (r r' : ReL) : Prop := ∀ d j, r = .ok d j → r' ≠ .out → ∃ d', r' = .ok d' (j + k) ∧ simL d d'
def UpE (L k : Nat) (E E' : Nat → Re) : Prop := ∀ i, i ≤ L → Up k (E i) (E' (i + k))
theorem Up.ok {k j : Nat} {d d' : DT} (h : simD d d') : Up k (.ok d j) (.ok d' (j + k)) := fun _ _ e _ => by cases e; exact ⟨d', rfl, h⟩
theorem UpL.ok {k j : Nat} {d d' : List DT} (h : simL d d') : UpL k (.ok d j) (.ok d' (j + k)) := fun _ _ e _ => by cases e; exact ⟨d', rfl, h⟩
theorem Up.bad {k j : Nat} {r : Re} : Up k (.bad j) r := fun _ _ e _ => by cases e
theorem UpL.bad {k j : Nat} {r : ReL} : UpL k (.bad j) r := fun _ _ e _ => by cases e
theorem Up.out {k : Nat} {r : Re} : Up k .out r := fun _ _ e _ => by cases e
theorem UpL.out {k : Nat} {r : ReL} : UpL k .out r := fun _ _ e _ => by cases e
theorem Up.none {k : Nat} {r : Re} : Up k r .out := fun _ _ _ h => absurd rfl h
theorem UpL.none {k : Nat} {r : ReL} : UpL k r .out := fun _ _ _ h => absurd rfl h
theorem up_bind {k : Nat} {r r' : Re} {K K' : DT → Nat → Re} (h : Up k r r') (hK : ∀ x j x', r = .ok x j → simD x x' → Up k (K x j) (K' x' (j + k))) : Up k (r.bnd K) (r'.bnd K') := by
  intro d j he hne
  cases r with
  | ok x j0 =>
    obtain ⟨x', e, s⟩ := h x j0 rfl (fun e => hne (by rw [e]; rfl))
    subst e
    exact hK x j0 x' rfl s d j he hne
  | bad j0 => cases he
  | out => cases he
theorem up_bindL {k : Nat} {r r' : Re} {K K' : DT → Nat → ReL} (h : Up k r r') (hK : ∀ x j x', r = .ok x j → simD x x' → UpL k (K x j) (K' x' (j + k))) : UpL k (r.bndL K) (r'.bndL K') := by
  intro d j he hne
  cases r with
  | ok x j0 =>
    obtain ⟨x', e, s⟩ := h x j0 rfl (fun e => hne (by rw [e]; rfl))
    subst e
    exact hK x j0 x' rfl s d j he hne
  | bad j0 => cases he
  | out => cases he
theorem upL_bind {k : Nat} {r r' : ReL} {K K' : List DT → Nat → ReL} (h : UpL k r r') (hK : ∀ x j x', r = .ok x j → simL x x' → UpL k (K x j) (K' x' (j + k))) : UpL k (r.bnd K) (r'.bnd K') := by
  intro d j he hne
  cases r with
  | ok x j0 =>
    obtain ⟨x', e, s⟩ := h x j0 rfl (fun e => hne (by rw [e]; rfl))
    subst e
    exact hK x j0 x' rfl s d j he hne
  | bad j0 => cases he
  | out => cases he
theorem UpL.re {k : Nat} {r r' : ReL} (h : UpL k r r') {f g : List DT → DT} (hf : ∀ l l', simL l l' → simD (f l) (g l')) : Up k (r.re f) (r'.re g) := by
  intro d j he hne
  cases r with
  | ok l j0 =>
    obtain ⟨x', e, s⟩ := h l j0 rfl (fun e => hne (by rw [e]; rfl))
    subst e
    cases he
    exact ⟨_, rfl, hf _ _ s⟩
  | bad j0 => cases he
  | out => cases he
section
variable {k : Nat} {ts us : List TK} (A : Shf k ts us)
include A
theorem Shf.isS {i : Nat} (hi : i ≤ ts.length) (s : List UInt8) (hs : s ∈ ([[46], [94], [91], [44], [46, 46], [123], [40]] : List (List UInt8))) : isS (tk us (i + k)) s = isS (tk ts i) s := by
  rcases Nat.lt_or_ge i ts.length with h | h
  · unfold Go.Proofs.YtggembknccbpnaaGreat.isS; rw [A.at' i h]
  · obtain rfl : i = ts.length := Nat.le_antisymm hi h
    have h1 := A.stop
    have e2 : Go.Proofs.YtggembknccbpnaaGreat.isS (tk ts ts.length) s = false := by
      rw [tk_ge (Nat.le_refl _)]
      rfl
    rw [e2]
    unfold stopB at h1
    simp only [Bool.and_eq_true, Bool.not_eq_true'] at h1
    have h2 := h1.1.1.1.1.1.2
    unfold Go.Proofs.YtggembknccbpnaaGreat.isS
    cases hk : ((tk us (ts.length + k)).1.k == 5) with
    | false => rfl
    | true =>
      rw [hk, Bool.true_and] at h2
      rw [Bool.true_and]
      refine beq_eq_false_iff_ne.2 fun e => ?_
      rw [e] at h2
      rw [List.contains_iff_mem.2 hs] at h2
      cases h2
theorem Shf.kS {i : Nat} (hi : i ≤ ts.length) {c : Nat} (hc : c = 1 ∨ c = 2 ∨ c = 3 ∨ c = 4) : ((tk us (i + k)).1.k = c) = ((tk ts i).1.k = c) := by
  rcases Nat.lt_or_ge i ts.length with h | h
  · rw [A.at' i h]
  · obtain rfl : i = ts.length := Nat.le_antisymm hi h
    have h1 := A.stop
    rw [tk_ge (Nat.le_refl _)]
    unfold stopB at h1
    simp only [Bool.and_eq_true, Bool.not_eq_true', beq_eq_false_iff_ne] at h1
    have hz : (zTK.1.k = c) = False := by
      refine propext ⟨fun e => ?_, False.elim⟩
      have e' : (0 : Nat) = c := e
      omega
    rw [hz]
    refine propext ⟨fun e => ?_, False.elim⟩
    obtain ⟨⟨⟨⟨⟨⟨⟨⟨⟨g1, g2⟩, g3⟩, g4⟩, _⟩, _⟩, _⟩, _⟩, _⟩, _⟩ := h1
    omega
theorem Shf.isO {i : Nat} (hi : i ≤ ts.length) {tb : List (List UInt8 × Nat)} (hz : tb.lookup [] = none) (ht : tb = relT ∨ tb = signT ∨ tb = sumT ∨ tb = mulT ∨ tb = notT) : isO tb (tk us (i + k)) = isO tb (tk ts i) := by
  rcases Nat.lt_or_ge i ts.length with h | h
  · unfold Go.Proofs.YtggembknccbpnaaGreat.isO; rw [A.at' i h]
  · obtain rfl : i = ts.length := Nat.le_antisymm hi h
    have h1 := A.stop
    have e2 : Go.Proofs.YtggembknccbpnaaGreat.isO tb (tk ts ts.length) = false := by
      cases ho : Go.Proofs.YtggembknccbpnaaGreat.isO tb (tk ts ts.length) with
      | false => rfl
      | true => exact absurd (isO_lt hz ho) (Nat.lt_irrefl _)
    rw [e2]
    unfold stopB at h1
    simp only [Bool.and_eq_true, Bool.not_eq_true'] at h1
    obtain ⟨⟨⟨⟨⟨⟨⟨⟨⟨g1, g2⟩, g3⟩, g4⟩, _⟩, q1⟩, q2⟩, q3⟩, q4⟩, q5⟩ := h1
    unfold Go.Proofs.YtggembknccbpnaaGreat.isO
    rcases ht with rfl | rfl | rfl | rfl | rfl
    · exact q1
    · exact q2
    · exact q3
    · exact q4
    · exact q5
theorem up_dot {x x' y : DT} {i : Nat} (hi : i + 1 < ts.length) (hx : simD x x') (h : dotM ts x i = some y) : ∃ y', dotM us x' (i + k) = some y' ∧ simD y y' := by
  unfold dotM at h ⊢
  have e1 := A.at' (i + 1) hi
  rw [show i + 1 + k = i + k + 1 by omega] at e1
  split at h
  · rename_i hk
    rw [if_pos (by rw [e1]; exact hk)]
    cases h
    exact ⟨_, rfl, ⟨rfl, by show (tk ts (i + 1)).1.x = (tk us (i + k + 1)).1.x; rw [e1], rfl⟩, hx, trivial⟩
  · cases h
theorem up_dots : ∀ (m m' : Nat) (x x' : DT) (i : Nat), i ≤ ts.length → simD x x' → Up k (dotsM ts m x i) (dotsM us m' x' (i + k))
  | 0, _, _, _, _, _, _ => Up.out
  | _ + 1, 0, _, _, _, _, _ => Up.none
  | m + 1, m' + 1, x, x', i, hi, hx => by
    unfold dotsM
    rw [A.isS hi [46] (by decide)]
    by_cases hs : isS (tk ts i) [46] = true
    · rw [if_pos hs, if_pos hs]
      cases ho : dotM ts x i with
      | none => exact Up.bad
      | some y =>
        have hd := dot_lt ho
        obtain ⟨y', e, hy⟩ := up_dot A hd hx ho
        rw [e]
        have := up_dots m m' y y' (i + 2) (by omega) hy
        rw [show i + 2 + k = i + k + 2 by omega] at this
        exact this
    · rw [if_neg hs, if_neg hs]
      exact Up.ok hx
theorem up_qual : UpE ts.length k (qualM ts) (qualM us) := fun i hi => by
  unfold qualM
  by_cases hs : (tk ts i).1.k = 1
  · have hl := k_lt (ts := ts) (i := i) (by rw [hs]; decide)
    have e0 := A.at' i hl
    rw [if_pos hs, if_pos (by rw [e0]; exact hs)]
    have := up_dots A (ts.length + 1) (us.length + 1) (.node (nd 1 (tk ts i) (tk ts i).1.x 0) []) (.node (nd 1 (tk us (i + k)) (tk us (i + k)).1.x 0) []) (i + 1) (by omega) ⟨⟨rfl, by show (tk ts i).1.x = (tk us (i + k)).1.x; rw [e0], rfl⟩, trivial⟩
    rw [show i + 1 + k = i + k + 1 by omega] at this
    exact this
  · rw [if_neg hs]
    exact Up.bad
theorem up_sel {E E' : Nat → Re} (hE : Bnd ts.length E) (hA : UpE ts.length k E E') : ∀ (m m' : Nat) (f : Bool) (x x' : DT) (i : Nat), i ≤ ts.length → (f = true → i < ts.length) → simD x x' → Up k (selM ts E m f x i) (selM us E' m' f x' (i + k))
  | 0, _, _, _, _, _, _, _, _ => by unfold selM; exact Up.out
  | _ + 1, 0, _, _, _, _, _, _, _ => fun _ _ _ h => absurd (by unfold selM; rfl) h
  | m + 1, m' + 1, false, x, x', i, hi, _, hx => by
    unfold selM
    rw [A.isS hi [46] (by decide), A.isS hi [94] (by decide), A.isS hi [91] (by decide)]
    by_cases hs : isS (tk ts i) [46] = true
    · rw [if_pos hs, if_pos hs]
      cases ho : dotM ts x i with
      | none => exact Up.bad
      | some y =>
        have hd := dot_lt ho
        obtain ⟨y', e, hy⟩ := up_dot A hd hx ho
        rw [e]
        have := up_sel hE hA m m' false y y' (i + 2) (by omega) (by simp) hy
        rw [show i + 2 + k = i + k + 2 by omega] at this
        exact this
    · rw [if_neg hs, if_neg hs]
      by_cases hs2 : isS (tk ts i) [94] = true
      · have hl := isS_lt hs2
        rw [if_pos hs2, if_pos hs2]
        have := up_sel hE hA m m' false (.node (nd 4 (tk ts i) [] 0) [x]) (.node (nd 4 (tk us (i + k)) [] 0) [x']) (i + 1) (by omega) (by simp) ⟨⟨rfl, rfl, rfl⟩, hx, trivial⟩
        rw [show i + 1 + k = i + k + 1 by omega] at this
        exact this
      · rw [if_neg hs2, if_neg hs2]
        by_cases hs3 : isS (tk ts i) [91] = true
        · have hl := isS_lt hs3
          rw [if_pos hs3, if_pos hs3]
          exact up_sel hE hA m m' true x x' i hi (fun _ => hl) hx
        · rw [if_neg hs3, if_neg hs3]
          exact Up.ok hx
  | m + 1, m' + 1, true, x, x', i, hi, hf, hx => by
    have hl := hf rfl
    have hb := hE (i + 1) (by omega)
    have h1 := hA (i + 1) (by omega)
    rw [show i + 1 + k = i + k + 1 by omega] at h1
    unfold selM
    refine up_bind (K := fun e j => if isS (tk ts j) [44] then selM ts E m true (.node (nd 3 (tk ts i) [] 0) [x, e]) j else if isS (tk ts j) [93] then selM ts E m false (.node (nd 3 (tk ts i) [] 0) [x, e]) (j + 1) else .bad j) (K' := fun e j => if isS (tk us j) [44] then selM us E' m' true (.node (nd 3 (tk us (i + k)) [] 0) [x', e]) j else if isS (tk us j) [93] then selM us E' m' false (.node (nd 3 (tk us (i + k)) [] 0) [x', e]) (j + 1) else .bad j) h1 (fun e j e' he hs => ?_)
    have hj := hb.1 e j he
    try dsimp only
    rw [A.isS hj.2 [44] (by decide)]
    by_cases hs1 : isS (tk ts j) [44] = true
    · have := isS_lt hs1
      rw [if_pos hs1, if_pos hs1]
      exact up_sel hE hA m m' true _ _ j hj.2 (fun _ => this) ⟨⟨rfl, rfl, rfl⟩, hx, hs, trivial⟩
    · rw [if_neg hs1, if_neg hs1]
      by_cases hs2 : isS (tk ts j) [93] = true
      · have hl2 := isS_lt hs2
        have hs2' : isS (tk us (j + k)) [93] = true := by unfold isS at hs2 ⊢; rw [A.at' j hl2]; exact hs2
        rw [if_pos hs2, if_pos hs2']
        have := up_sel hE hA m m' false (.node (nd 3 (tk ts i) [] 0) [x, e]) (.node (nd 3 (tk us (i + k)) [] 0) [x', e']) (j + 1) (by omega) (by simp) ⟨⟨rfl, rfl, rfl⟩, hx, hs, trivial⟩
        rw [show j + 1 + k = j + k + 1 by omega] at this
        exact this
      · rw [if_neg hs2]
        exact Up.bad
theorem up_lst {I I' : Nat → Re} (hI : Bnd ts.length I) (hA : UpE ts.length k I I') : ∀ (m m' : Nat) (acc acc' : List DT) (i : Nat), i ≤ ts.length → simL acc acc' → UpL k (lstM ts I m acc i) (lstM us I' m' acc' (i + k))
  | 0, _, _, _, _, _, _ => UpL.out
  | _ + 1, 0, _, _, _, _, _ => UpL.none
  | m + 1, m' + 1, acc, acc', i, hi, ha => by
    have hb := hI i hi
    unfold lstM
    refine up_bindL (K := fun t j => if isS (tk ts j) [44] then lstM ts I m (acc ++ [t]) (j + 1) else .ok (acc ++ [t]) j) (K' := fun t j => if isS (tk us j) [44] then lstM us I' m' (acc' ++ [t]) (j + 1) else .ok (acc' ++ [t]) j) (hA i hi) (fun e j e' he hs => ?_)
    have hj := hb.1 e j he
    try dsimp only
    rw [A.isS hj.2 [44] (by decide)]
    have hac : simL (acc ++ [e]) (acc' ++ [e']) := simL_app ha ⟨hs, trivial⟩
    by_cases hs1 : isS (tk ts j) [44] = true
    · have := isS_lt hs1
      rw [if_pos hs1, if_pos hs1]
      have := up_lst hI hA m m' (acc ++ [e]) (acc' ++ [e']) (j + 1) (by omega) hac
      rw [show j + 1 + k = j + k + 1 by omega] at this
      exact this
    · rw [if_neg hs1, if_neg hs1]
      exact UpL.ok hac
theorem up_elem {E E' : Nat → Re} (hE : Bnd ts.length E) (hA : UpE ts.length k E E') : UpE ts.length k (elemM ts E) (elemM us E') := fun i hi => by
  have hb := hE i hi
  unfold elemM
  refine up_bind (K := fun lo j => elTl ts E (tk ts i) lo j) (K' := fun lo j => elTl us E' (tk us (i + k)) lo j) (hA i hi) (fun e j e' he hs => ?_)
  have hj := hb.1 e j he
  try dsimp only
  unfold elTl
  rw [A.isS hj.2 [46, 46] (by decide)]
  by_cases hs1 : isS (tk ts j) [46, 46] = true
  · have hl := isS_lt hs1
    rw [if_pos hs1, if_pos hs1]
    have h1 := hA (j + 1) (by omega)
    rw [show j + 1 + k = j + k + 1 by omega] at h1
    refine up_bind (K := fun hi q => .ok (.node (nd 9 (tk ts i) [] 0) [e, hi]) q) (K' := fun hi q => .ok (.node (nd 9 (tk us (i + k)) [] 0) [e', hi]) q) h1 (fun g q g' hg hs2 => ?_)
    exact Up.ok ⟨⟨rfl, rfl, rfl⟩, hs, hs2, trivial⟩
  · rw [if_neg hs1, if_neg hs1]
    exact Up.ok hs
theorem up_same {q : Nat} {e : List UInt8} (h : isS (tk ts q) e = true) : isS (tk us (q + k)) e = true := by
  have hl := isS_lt h
  unfold isS at h ⊢
  rw [A.at' q hl]; exact h
theorem up_with {I I' : Nat → Re} (hI : Bnd ts.length I) (hM : Mono I) (hA : UpE ts.length k I I') (e : List UInt8) (i : Nat) (hi : i < ts.length) : UpL k (withM ts e I i) (withM us e I' (i + k)) := by
  intro d j he hne
  unfold withM at he hne ⊢
  by_cases hs : isS (tk ts (i + 1)) e = true
  · have h2 := up_same A hs
    rw [show i + 1 + k = i + k + 1 by omega] at h2
    rw [if_pos hs] at he
    rw [if_pos h2]
    cases he
    exact ⟨[], by rw [show i + 2 + k = i + k + 2 by omega], trivial⟩
  · rw [if_neg hs] at he
    have hlok : i + 1 < ts.length := by
      cases hq : lstM ts I (ts.length + 1) [] (i + 1) with
      | ok l j =>
        have h1 := mono_lst hM _ _ _ _ _ hq
        have h2 := (bd_lst hI (ts.length + 1) [] (i + 1) (by omega)).1 _ _ hq
        omega
      | bad j => rw [hq] at he; cases he
      | out => rw [hq] at he; cases he
    have h2 : ¬ isS (tk us (i + k + 1)) e = true := by
      have e1 := A.at' (i + 1) hlok
      rw [show i + 1 + k = i + k + 1 by omega] at e1
      unfold isS at hs ⊢
      rw [e1]; exact hs
    rw [if_neg h2] at hne ⊢
    have h3 := up_lst A hI hA (ts.length + 1) (us.length + 1) [] [] (i + 1) (by omega) trivial
    rw [show i + 1 + k = i + k + 1 by omega] at h3
    refine upL_bind (K := fun l j => if isS (tk ts j) e then .ok l (j + 1) else .bad j) (K' := fun l j => if isS (tk us j) e then .ok l (j + 1) else .bad j) h3 (fun l q l' hl hs2 => ?_) d j he hne
    try dsimp only
    by_cases hs3 : isS (tk ts q) e = true
    · rw [if_pos hs3, if_pos (up_same A hs3)]
      have := UpL.ok (k := k) (j := q + 1) hs2
      rw [show q + 1 + k = q + k + 1 by omega] at this
      exact this
    · rw [if_neg hs3]
      exact UpL.bad
theorem up_nmd {E E' : Nat → Re} (hE : Bnd ts.length E) (hM : Mono E) (hA : UpE ts.length k E E') : UpE ts.length k (nmdM ts E) (nmdM us E') := fun i hi => by
  have hb := bd_qual (ts := ts) i hi
  unfold nmdM
  refine up_bind (K := fun x j => if isS (tk ts j) [123] then setM ts E (tk ts i) (some x) j else Re.bnd (selM ts E (2 * ts.length + 2) false x j) fun y q => if isS (tk ts q) [40] then callM ts E y q else .ok y q) (K' := fun x j => if isS (tk us j) [123] then setM us E' (tk us (i + k)) (some x) j else Re.bnd (selM us E' (2 * us.length + 2) false x j) fun y q => if isS (tk us q) [40] then callM us E' y q else .ok y q) (up_qual A i hi) (fun x j x' he hx => ?_)
  have hj := hb.1 x j he
  try dsimp only
  rw [A.isS hj.2 [123] (by decide)]
  by_cases hs : isS (tk ts j) [123] = true
  · rw [if_pos hs, if_pos hs]
    exact (up_with A (bd_elem hE) (mono_elem hM) (up_elem A hE hA) [125] j (isS_lt hs)).re (fun l l' hl => ⟨⟨rfl, rfl, rfl⟩, hx, hl⟩)
  · rw [if_neg hs, if_neg hs]
    have hb2 := bd_sel hE (2 * ts.length + 2) false x j hj.2 (by simp)
    refine up_bind (up_sel A hE hA (2 * ts.length + 2) (2 * us.length + 2) false x x' j hj.2 (by simp) hx) (fun y q y' hq hy => ?_)
    have hqq := hb2.1 y q hq
    try dsimp only
    rw [A.isS hqq.2 [40] (by decide)]
    by_cases hs : isS (tk ts q) [40] = true
    · rw [if_pos hs, if_pos hs]
      exact (up_with A hE hM hA [41] q (isS_lt hs)).re (fun l l' hl => ⟨⟨rfl, rfl, rfl⟩, hy, hl⟩)
    · rw [if_neg hs, if_neg hs]
      exact Up.ok hy
theorem up_oper {E E' : Nat → Re} (hE : Bnd ts.length E) (hM : Mono E) (hA : UpE ts.length k E E') : UpE ts.length k (operM ts E) (operM us E') := fun i hi => by
  have hone : ∀ {m c : Nat} {x y : List UInt8} {z z' : Int} (hc : (tk ts i).1.k = c) (h4 : c ≠ 0), x = y → z = z' → Up k (.ok (.node (nd m (tk ts i) x z) []) (i + 1)) (.ok (.node (nd m (tk us (i + k)) y z') []) (i + k + 1)) := by
    intro m c x y z z' hc h4 hx hz
    have := Up.ok (k := k) (j := i + 1) (d := .node (nd m (tk ts i) x z) []) (d' := .node (nd m (tk us (i + k)) y z') []) ⟨⟨rfl, hx, hz⟩, trivial⟩
    rw [show i + 1 + k = i + k + 1 by omega] at this
    exact this
  unfold operM
  rw [A.isS hi [123] (by decide), A.isS hi [40] (by decide)]
  simp only [A.kS hi (.inl rfl), A.kS hi (.inr (.inl rfl)), A.kS hi (.inr (.inr (.inl rfl))), A.kS hi (.inr (.inr (.inr rfl)))]
  split
  · exact up_nmd A hE hM hA i hi
  split
  · rename_i h
    have e0 := A.at' i (k_lt (ts := ts) (i := i) (by rw [h]; decide))
    exact hone h (by decide) rfl (by rw [e0])
  split
  · rename_i h
    have e0 := A.at' i (k_lt (ts := ts) (i := i) (by rw [h]; decide))
    exact hone h (by decide) rfl (by rw [e0])
  split
  · rename_i h
    have e0 := A.at' i (k_lt (ts := ts) (i := i) (by rw [h]; decide))
    exact hone h (by decide) (by rw [e0]) rfl
  split
  · rename_i hs
    exact (up_with A (bd_elem hE) (mono_elem hM) (up_elem A hE hA) [125] i (isS_lt hs)).re (fun l l' hl => ⟨⟨rfl, rfl, rfl⟩, ⟨⟨rfl, rfl, rfl⟩, trivial⟩, hl⟩)
  split
  · rename_i hs
    have hl := isS_lt hs
    have h1 := hA (i + 1) (by omega)
    rw [show i + 1 + k = i + k + 1 by omega] at h1
    refine up_bind (K := fun x j => if isS (tk ts j) [41] then .ok x (j + 1) else .bad j) (K' := fun x j => if isS (tk us j) [41] then .ok x (j + 1) else .bad j) h1 (fun x j x' he hx => ?_)
    try dsimp only
    by_cases hs : isS (tk ts j) [41] = true
    · rw [if_pos hs, if_pos (up_same A hs)]
      have := Up.ok (k := k) (j := j + 1) hx
      rw [show j + 1 + k = j + k + 1 by omega] at this
      exact this
    · rw [if_neg hs]
      exact Up.bad
  · exact Up.bad
theorem up_ops {tb : List (List UInt8 × Nat)} (hz : tb.lookup [] = none) (ht : tb = relT ∨ tb = signT ∨ tb = sumT ∨ tb = mulT ∨ tb = notT) : ∀ (m m' i : Nat), i ≤ ts.length → 1 ≤ m' → us.length + 1 ≤ m' + (i + k) → opsM ts tb m i < m → opsM us tb m' (i + k) = opsM ts tb m i
  | 0, _, _, _, _, _, h => absurd h (by omega)
  | m + 1, 0, _, _, h, _, _ => absurd h (by omega)
  | m + 1, m' + 1, i, hi, _, hm, h1 => by
    unfold opsM at h1 ⊢
    have e0 := A.isO hi hz ht
    rw [e0]
    by_cases ho : isO tb (tk ts i) = true
    · rw [if_pos ho] at h1 ⊢
      rw [if_pos ho]
      have hl : i < ts.length := isO_lt hz ho
      have hl2 : i + k < us.length := isO_lt hz (by rw [e0]; exact ho)
      have := up_ops hz ht m m' (i + 1) (by omega) (by omega) (by omega) (by omega)
      rw [show i + 1 + k = i + k + 1 by omega] at this
      rw [this]
    · rw [if_neg ho, if_neg ho]
theorem up_wrap (i : Nat) : ∀ (n : Nat) (x x' : DT), i + n ≤ ts.length → simD x x' → simD (wrapM ts i n x) (wrapM us (i + k) n x')
  | 0, _, _, _, hx => hx
  | n + 1, x, x', h, hx => by
    unfold wrapM
    have e0 := A.at' (i + n) (by omega)
    rw [show i + n + k = i + k + n by omega] at e0
    exact up_wrap i n _ _ (by omega) ⟨⟨rfl, by show (tk ts (i + n)).1.x = (tk us (i + k + n)).1.x; rw [e0], rfl⟩, hx, trivial⟩
theorem up_ahead {tb : List (List UInt8 × Nat)} (hz : tb.lookup [] = none) (ht : tb = relT ∨ tb = signT ∨ tb = sumT ∨ tb = mulT ∨ tb = notT) {again : Bool} {G G' : Nat → Re} (hG : Bnd ts.length G) (hA : UpE ts.length k G G') : UpE ts.length k (aheadM ts tb again G) (aheadM us tb again G') := fun i hi => by
  obtain ⟨c, hc⟩ : ∃ c, opsM ts tb (if again then ts.length + 1 else 1) i = c := ⟨_, rfl⟩
  have hb := bd_ops (ts := ts) hz (if again then ts.length + 1 else 1) i hi
  rw [hc] at hb
  have hu : opsM us tb (if again then us.length + 1 else 1) (i + k) = c := by
    cases again with
    | false =>
      have e0 := A.isO hi hz ht
      have hc' : opsM ts tb 1 i = c := hc
      show opsM us tb 1 (i + k) = c
      rw [← hc']
      simp only [opsM, e0]
    | true =>
      have hc' : opsM ts tb (ts.length + 1) i = c := hc
      exact (up_ops A hz ht (ts.length + 1) (us.length + 1) i hi (by omega) (by omega) (by omega)).trans hc'
  unfold aheadM
  rw [hc, hu]
  have h1 := hA (i + c) hb
  rw [show i + c + k = i + k + c by omega] at h1
  refine up_bind (K := fun x j => .ok (wrapM ts i c x) j) (K' := fun x j => .ok (wrapM us (i + k) c x) j) h1 (fun x j x' he hx => ?_)
  exact Up.ok (up_wrap A i c x x' hb hx)
theorem up_more {tb : List (List UInt8 × Nat)} (hz : tb.lookup [] = none) (ht : tb = relT ∨ tb = signT ∨ tb = sumT ∨ tb = mulT ∨ tb = notT) {again : Bool} {G G' : Nat → Re} (hG : Bnd ts.length G) (hA : UpE ts.length k G G') : ∀ (m m' : Nat) (x x' : DT) (i : Nat), i ≤ ts.length → simD x x' → Up k (moreM ts tb again G m x i) (moreM us tb again G' m' x' (i + k))
  | 0, _, _, _, _, _, _ => Up.out
  | _ + 1, 0, _, _, _, _, _ => Up.none
  | m + 1, m' + 1, x, x', i, hi, hx => by
    unfold moreM
    rw [A.isO hi hz ht]
    by_cases ho : isO tb (tk ts i) = true
    · have hl := isO_lt hz ho
      have e0 := A.at' i hl
      have hb := hG (i + 1) (by omega)
      have h1 := hA (i + 1) (by omega)
      rw [show i + 1 + k = i + k + 1 by omega] at h1
      rw [if_pos ho, if_pos ho]
      refine up_bind (K := fun y j => if again then moreM ts tb again G m (.node (nd 11 (tk ts i) (tk ts i).1.x 0) [x, y]) j else .ok (.node (nd 11 (tk ts i) (tk ts i).1.x 0) [x, y]) j) (K' := fun y j => if again then moreM us tb again G' m' (.node (nd 11 (tk us (i + k)) (tk us (i + k)).1.x 0) [x', y]) j else .ok (.node (nd 11 (tk us (i + k)) (tk us (i + k)).1.x 0) [x', y]) j) h1 (fun y j y' he hy => ?_)
      have hj := hb.1 y j he
      have hn : simD (.node (nd 11 (tk ts i) (tk ts i).1.x 0) [x, y]) (.node (nd 11 (tk us (i + k)) (tk us (i + k)).1.x 0) [x', y']) := ⟨⟨rfl, by show (tk ts i).1.x = (tk us (i + k)).1.x; rw [e0], rfl⟩, hx, hy, trivial⟩
      try dsimp only
      split
      · exact up_more hz ht hG hA m m' _ _ j hj.2 hn
      · exact Up.ok hn
    · rw [if_neg ho, if_neg ho]
      exact Up.ok hx
theorem up_betw {tb : List (List UInt8 × Nat)} (hz : tb.lookup [] = none) (ht : tb = relT ∨ tb = signT ∨ tb = sumT ∨ tb = mulT ∨ tb = notT) {again : Bool} {F F' G G' : Nat → Re} (hF : Bnd ts.length F) (hG : Bnd ts.length G) (aF : UpE ts.length k F F') (aG : UpE ts.length k G G') : UpE ts.length k (betwM ts tb again F G) (betwM us tb again F' G') := fun i hi => by
  have hb := hF i hi
  unfold betwM
  exact up_bind (K := fun x j => moreM ts tb again G (ts.length + 1) x j) (K' := fun x j => moreM us tb again G' (us.length + 1) x j) (aF i hi) (fun x j x' he hx => up_more A hz ht hG aG _ _ x x' j (hb.1 x j he).2 hx)
theorem up_ex {E E' : Nat → Re} (hE : Bnd ts.length E) (hM : Mono E) (hA : UpE ts.length k E E') : UpE ts.length k (exM ts E) (exM us E') := by
  have f := bd_ahead (ts := ts) (tb := notT) (again := true) rfl (bd_oper hE)
  have t : Bnd ts.length (termM ts E) := bd_betw (tb := mulT) (again := true) rfl f f
  have s : Bnd ts.length (simM ts E) := bd_betw (tb := sumT) (again := true) rfl (bd_ahead (tb := signT) (again := false) rfl t) t
  have af : UpE ts.length k (facM ts E) (facM us E') := up_ahead A (tb := notT) (again := true) rfl (by simp) (bd_oper hE) (up_oper A hE hM hA)
  have ax : UpE ts.length k (termM ts E) (termM us E') := up_betw A (tb := mulT) (again := true) rfl (by simp) f f af af
  have az : UpE ts.length k (simM ts E) (simM us E') := up_betw A (tb := sumT) (again := true) rfl (by simp) (bd_ahead (tb := signT) (again := false) rfl t) t (up_ahead A (tb := signT) (again := false) rfl (by simp) t ax) ax
  exact up_betw A rfl (by simp) s s az az
theorem up_expr : ∀ n n', UpE ts.length k (exprM ts n) (exprM us n')
  | 0, _ => fun _ _ => Up.out
  | _ + 1, 0 => fun _ _ => Up.none
  | n + 1, n' + 1 => up_ex A (bd_expr n) (mono_expr n) (up_expr n n')
end
end Go.Proofs.YtggembknccbpnaaGreat
/- Layer 6 by plain functions: parentheses around an expression. No program stands in here. -/
namespace Go.Proofs.YtggembknccbpnaaGreat
open Go.RowKit
set_option maxHeartbeats 1000000
set_option linter.unusedVariables false
set_option linter.unusedSimpArgs false

def tOpen : T0 := ⟨5, [40], 0⟩
def tClose : T0 := ⟨5, [41], 0⟩
theorem scan_closes : ∀ (k off : Nat), (scanS off (List.replicate k 41)).1.map (·.1) = List.replicate k tClose ∧ (scanS off (List.replicate k 41)).2.2 = 0
  | 0, off => by rw [List.replicate_zero, scanS_nil]; exact ⟨rfl, rfl⟩
  | k + 1, off => by
    obtain ⟨i1, i2⟩ := scan_closes k (off + 1)
    rw [List.replicate_succ, scanS_tok off _ (by simp) _ 1 0 (stp_close _)]
    show _ :: List.map (·.1) (scanS (off + 1) (List.replicate k 41)).1 = _ ∧ (scanS (off + 1) (List.replicate k 41)).2.2 = 0
    rw [i1, i2]
    exact ⟨rfl, rfl⟩
theorem scan_mid (S : List UInt8) (k off : Nat) (h : (scanS 0 S).2.2 = 0) : (scanS off (S ++ 32 :: List.replicate k 41)).1.map (·.1) = (scanS 0 S).1.map (·.1) ++ List.replicate k tClose ∧ (scanS off (S ++ 32 :: List.replicate k 41)).2.2 = 0 := by
  obtain ⟨o1, o2⟩ := scan_off _ S off 0 (Nat.le_refl _)
  obtain ⟨i1, i2⟩ := scan_closes k (off + S.length + 1)
  rw [scan_fol (c0 := 32) (by decide) _ S _ off (Nat.le_refl _) (by rw [o2]; exact h)]
  rw [scanS_skip (off + S.length) _ (by simp) 1 (stp_space _)]
  show List.map (·.1) ((scanS off S).1 ++ (scanS (off + S.length + 1) (List.replicate k 41)).1) = _ ∧ (scanS (off + S.length + 1) (List.replicate k 41)).2.2 = 0
  rw [List.map_append, o1, i1, i2]
  exact ⟨rfl, rfl⟩
theorem scan_opens (S : List UInt8) (q : Nat) (h : (scanS 0 S).2.2 = 0) (hs : S.head? ≠ some 42) : ∀ (k off : Nat), (scanS off (List.replicate k 40 ++ (S ++ 32 :: List.replicate q 41))).1.map (·.1) = List.replicate k tOpen ++ ((scanS 0 S).1.map (·.1) ++ List.replicate q tClose) ∧ (scanS off (List.replicate k 40 ++ (S ++ 32 :: List.replicate q 41))).2.2 = 0
  | 0, off => scan_mid S q off h
  | k + 1, off => by
    obtain ⟨i1, i2⟩ := scan_opens S q h hs k (off + 1)
    have hh : (List.replicate k 40 ++ (S ++ 32 :: List.replicate q 41)).head? ≠ some (42 : UInt8) := by
      cases k with
      | succ k => rw [List.replicate_succ]; intro e; injection e with e; exact absurd e (by decide)
      | zero =>
        cases S with
        | nil => intro e; injection e with e; exact absurd e (by decide)
        | cons c r => exact hs
    rw [List.replicate_succ, List.cons_append, scanS_tok off _ (by simp) _ 1 0 (stp_open _ hh)]
    show _ :: List.map (·.1) (scanS (off + 1) (List.replicate k 40 ++ (S ++ 32 :: List.replicate q 41))).1 = _ ∧ (scanS (off + 1) (List.replicate k 40 ++ (S ++ 32 :: List.replicate q 41))).2.2 = 0
    rw [i1, i2]
    exact ⟨rfl, rfl⟩
theorem rowT_map (S : List UInt8) (h : (scanS 0 S).2.2 = 0) : (rowT S).map (·.1) = (scanS 0 S).1.map (·.1) := by
  unfold rowT
  rw [if_pos h, List.map_map]
  rfl
theorem row_parens (S : List UInt8) (k : Nat) (h : (scanS 0 S).2.2 = 0) (hs : S.head? ≠ some 42) : (rowT (List.replicate k 40 ++ (S ++ 32 :: List.replicate k 41))).map (·.1) = List.replicate k tOpen ++ ((rowT S).map (·.1) ++ List.replicate k tClose) := by
  obtain ⟨i1, i2⟩ := scan_opens S k h hs k 0
  rw [rowT_map _ i2, rowT_map _ h, i1]
theorem tk_map (ts : List TK) (i : Nat) : (tk ts i).1 = ((ts.map (·.1))[i]?).getD zTK.1 := by
  unfold tk
  rw [List.getElem?_map]
  cases ts[i]? <;> rfl
/-- What an operand tells stands for an expression, where no operator is ahead of it or behind. -/
theorem lift_oper {us : List TK} {E : Nat → Re} {i q : Nat} {x : DT} (h : operM us E i = .ok x q) (h1 : isO notT (tk us i) = false) (h2 : isO signT (tk us i) = false) (h3 : isO mulT (tk us q) = false) (h4 : isO sumT (tk us q) = false) (h5 : isO relT (tk us q) = false) : exM us E i = .ok x q := by
  have o1 : opsM us notT (us.length + 1) i = 0 := by unfold opsM; rw [h1]; rfl
  have o2 : opsM us signT 1 i = 0 := by unfold opsM; rw [h2]; rfl
  have f : facM us E i = .ok x q := by
    unfold facM aheadM
    simp only [if_true, o1, Nat.add_zero, h]
    rfl
  have t : termM us E i = .ok x q := by
    unfold termM betwM
    rw [f]
    simp only
    unfold moreM
    rw [h3]; rfl
  have s0 : aheadM us signT false (termM us E) i = .ok x q := by
    unfold aheadM
    simp only [Bool.false_eq_true, if_false, o2, Nat.add_zero, t]
    rfl
  have s : simM us E i = .ok x q := by
    unfold simM betwM
    rw [s0]
    simp only
    unfold moreM
    rw [h4]; rfl
  unfold exM betwM
  rw [s]
  simp only
  unfold moreM
  rw [h5]; rfl
theorem oper_open {us : List TK} {E : Nat → Re} {i q : Nat} {x : DT} (ho : (tk us i).1 = tOpen) (hE : E (i + 1) = .ok x q) (hc : (tk us q).1 = tClose) : operM us E i = .ok x (q + 1) := by
  unfold operM
  have e1 : isS (tk us i) [123] = false := by unfold isS; rw [ho]; rfl
  have e2 : isS (tk us i) [40] = true := by unfold isS; rw [ho]; rfl
  have e3 : isS (tk us q) [41] = true := by unfold isS; rw [hc]; rfl
  rw [if_neg (by rw [ho]; decide), if_neg (by rw [ho]; decide), if_neg (by rw [ho]; decide), if_neg (by rw [ho]; decide), e1, e2, hE]
  simp only [Bool.false_eq_true, if_false, if_true, e3]
/-- An expression does not begin with a star. -/
theorem star_bad {ts : List TK} {E : Nat → Re} {i : Nat} (h : (tk ts i).1 = ⟨5, [42], 0⟩) : exM ts E i = .bad i := by
  have o : operM ts E i = .bad i := by
    unfold operM
    have e1 : isS (tk ts i) [123] = false := by unfold isS; rw [h]; rfl
    have e2 : isS (tk ts i) [40] = false := by unfold isS; rw [h]; rfl
    rw [if_neg (by rw [h]; decide), if_neg (by rw [h]; decide), if_neg (by rw [h]; decide), if_neg (by rw [h]; decide), e1, e2]
    rfl
  have o1 : opsM ts notT (ts.length + 1) i = 0 := by
    unfold opsM
    have : isO notT (tk ts i) = false := by unfold isO; rw [h]; rfl
    rw [this]; rfl
  have o2 : opsM ts signT 1 i = 0 := by
    unfold opsM
    have : isO signT (tk ts i) = false := by unfold isO; rw [h]; rfl
    rw [this]; rfl
  have f : facM ts E i = .bad i := by
    unfold facM aheadM
    simp only [if_true, o1, Nat.add_zero, o]
  have t : termM ts E i = .bad i := by
    unfold termM betwM
    rw [f]
  have s : simM ts E i = .bad i := by
    unfold simM betwM aheadM
    simp only [Bool.false_eq_true, if_false, o2, Nat.add_zero, t]
  unfold exM betwM
  rw [s]
theorem star_first (S : List UInt8) (h : (scanS 0 S).2.2 = 0) (hs : S.head? = some 42) : (tk (rowT S) 0).1 = ⟨5, [42], 0⟩ := by
  cases S with
  | nil => cases hs
  | cons c r =>
    obtain rfl : c = 42 := Option.some.inj hs
    have hst : stp (42 :: r) = (some ⟨5, [42], 0⟩, 1, 0) := by
      refine stp_one 42 r (by decide) (by decide) (by decide) (by decide) ?_ ?_
      · cases r with
        | nil => simp
        | cons a r => simp
      · unfold symb
        rw [if_neg]
        · rfl
        · rw [List.contains_iff_mem]
          unfold syms2
          cases r with
          | nil => simp
          | cons a r => simp
    rw [tk_map, rowT_map _ h, scanS_tok 0 _ (by simp) _ 1 0 hst]
    rfl
/-- PARENTHESES AROUND AN EXPRESSION MAKE NO DIFFERENCE BUT TO PLACES. -/
theorem parens (S : List UInt8) (k n : Nat) (d : DT) (h : (scanS 0 S).2.2 = 0) (hn : (rowT S).length = n) (he : exprM (rowT S) (n + 2) 0 = .ok d n) :
    ∃ d', exprM (rowT (List.replicate k 40 ++ (S ++ 32 :: List.replicate k 41))) ((rowT (List.replicate k 40 ++ (S ++ 32 :: List.replicate k 41))).length + 2) 0 = .ok d' (n + 2 * k) ∧ simD d d' := by
  have hs : S.head? ≠ some 42 := fun e => by
    have := star_bad (E := exprM (rowT S) (n + 1)) (star_first S h e)
    have he' : exM (rowT S) (exprM (rowT S) (n + 1)) 0 = .ok d n := he
    rw [this] at he'
    cases he'
  have hm := row_parens S k h hs
  obtain ⟨us, hus⟩ : ∃ us, rowT (List.replicate k 40 ++ (S ++ 32 :: List.replicate k 41)) = us := ⟨_, rfl⟩
  obtain ⟨ts, hts⟩ : ∃ ts, rowT S = ts := ⟨_, rfl⟩
  rw [hus, hts] at hm
  rw [hus]
  rw [hts] at hn he
  clear hus hts hs h
  have hlen : us.length = n + 2 * k := by
    have := congrArg List.length hm
    simp only [List.length_map, List.length_append, List.length_replicate] at this
    omega
  have hopen : ∀ i, i < k → (tk us i).1 = tOpen := fun i hi => by
    rw [tk_map, hm, List.getElem?_append_left (by rw [List.length_replicate]; exact hi), List.getElem?_replicate, if_pos hi]
    rfl
  have hmid : ∀ i, i < n → (tk us (i + k)).1 = (tk ts i).1 := fun i hi => by
    rw [tk_map, tk_map, hm, List.getElem?_append_right (by rw [List.length_replicate]; omega), List.length_replicate, Nat.add_sub_cancel, List.getElem?_append_left (by rw [List.length_map]; omega)]
  have hclose : ∀ i, i < k → (tk us (n + k + i)).1 = tClose := fun i hi => by
    rw [tk_map, hm, List.getElem?_append_right (by rw [List.length_replicate]; omega), List.length_replicate, List.getElem?_append_right (by rw [List.length_map]; omega), List.length_map, hn, show n + k + i - k - n = i by omega, List.getElem?_replicate, if_pos hi]
    rfl
  have hend : (tk us (n + k + k)).1 = zTK.1 := by rw [tk_ge (by omega)]
  have hafter : ∀ j, j ≤ k → (tk us (n + k + j)).1 = tClose ∨ (tk us (n + k + j)).1 = zTK.1 := fun j hj => by
    rcases Nat.lt_or_ge j k with h | h
    · exact .inl (hclose j h)
    · obtain rfl : j = k := by omega
      exact .inr hend
  have A : Shf k ts us := ⟨fun i hi => hmid i (by omega), by
    rw [hn]
    rcases hafter 0 (Nat.zero_le _) with h | h
    · rw [Nat.add_zero] at h; rw [h]; rfl
    · rw [Nat.add_zero] at h; rw [h]; rfl⟩
  have hstep : ∀ j, j ≤ k → ∃ d', exprM us (us.length + 2 - k + j) (k - j) = .ok d' (n + k + j) ∧ simD d d' := by
    intro j
    induction j with
    | zero =>
      intro _
      have hf := fin_expr (ts := us) (us.length + 2 - k) k (by omega) (by omega)
      obtain ⟨d', e, hd⟩ := up_expr A (n + 2) (us.length + 2 - k) 0 (Nat.zero_le _) d n he (by rw [Nat.zero_add]; exact hf)
      rw [Nat.zero_add] at e
      exact ⟨d', e, hd⟩
    | succ j ih =>
      intro hj
      obtain ⟨d', e, hd⟩ := ih (by omega)
      refine ⟨d', ?_, hd⟩
      have ho := hopen (k - (j + 1)) (by omega)
      have hc := hclose j (by omega)
      rw [show k - j = k - (j + 1) + 1 by omega] at e
      have hop := oper_open (E := exprM us (us.length + 2 - k + j)) ho e hc
      have ha := hafter (j + 1) hj
      rw [show n + k + (j + 1) = n + k + j + 1 by omega] at ha ⊢
      show exM us (exprM us (us.length + 2 - k + j)) (k - (j + 1)) = _
      refine lift_oper hop (by unfold isO; rw [ho]; rfl) (by unfold isO; rw [ho]; rfl) ?_ ?_ ?_
      · unfold isO; rcases ha with h | h <;> rw [h] <;> rfl
      · unfold isO; rcases ha with h | h <;> rw [h] <;> rfl
      · unfold isO; rcases ha with h | h <;> rw [h] <;> rfl
  obtain ⟨d', e, hd⟩ := hstep k (Nat.le_refl _)
  rw [show us.length + 2 - k + k = us.length + 2 by omega, Nat.sub_self, show n + k + k = n + 2 * k by omega] at e
  exact ⟨d', e, hd⟩
/-- Same, of trees. -/
theorem len_simL : ∀ {a b : List DT}, simL a b → a.length = b.length
  | [], [], _ => rfl
  | t :: r, u :: s, h => by have := len_simL h.2; simp [this]
  | [], _ :: _, h => h.elim
  | _ :: _, [], h => h.elim
end Go.Proofs.YtggembknccbpnaaGreat
