/- Layer 6 by plain functions: parentheses around an expression. No program stands in here. -/
import Derived.Test.YtnaihncmichfaaaEyG
import Derived.Test.YtnaihncmichfaaaEyH
import Derived.Test.YtnaihncmichfaaaExX
namespace Go.Proofs.Ytnaihncmichfaaa
open Go.RowKit
set_option maxHeartbeats 1000000
set_option linter.unusedVariables false
set_option linter.unusedSimpArgs false

def tOpen : T0 := ⟨5, [40], 0⟩
def tClose : T0 := ⟨5, [41], 0⟩
theorem scan_closes : ∀ (k off : Nat), (scanS off (List.replicate k 41)).1.map (·.1) = List.replicate k tClose ∧ (scanS off (List.replicate k 41)).2.2 = 0
  | 0, off => by rw [List.replicate_zero, scanS_nil]; exact ⟨rfl, rfl⟩
  | k + 1, off => by
    obtain ⟨i1, i2⟩ := scan_closes k (off + 1)
    rw [List.replicate_succ, scanS_tok off _ (by simp) _ 1 0 (stp_close _)]
    show _ :: List.map (·.1) (scanS (off + 1) (List.replicate k 41)).1 = _ ∧ (scanS (off + 1) (List.replicate k 41)).2.2 = 0
    rw [i1, i2]
    exact ⟨rfl, rfl⟩
theorem scan_mid (S : List UInt8) (k off : Nat) (h : (scanS 0 S).2.2 = 0) : (scanS off (S ++ 32 :: List.replicate k 41)).1.map (·.1) = (scanS 0 S).1.map (·.1) ++ List.replicate k tClose ∧ (scanS off (S ++ 32 :: List.replicate k 41)).2.2 = 0 := by
  obtain ⟨o1, o2⟩ := scan_off _ S off 0 (Nat.le_refl _)
  obtain ⟨i1, i2⟩ := scan_closes k (off + S.length + 1)
  rw [scan_fol (c0 := 32) (by decide) _ S _ off (Nat.le_refl _) (by rw [o2]; exact h)]
  rw [scanS_skip (off + S.length) _ (by simp) 1 (stp_space _)]
  show List.map (·.1) ((scanS off S).1 ++ (scanS (off + S.length + 1) (List.replicate k 41)).1) = _ ∧ (scanS (off + S.length + 1) (List.replicate k 41)).2.2 = 0
  rw [List.map_append, o1, i1, i2]
  exact ⟨rfl, rfl⟩
theorem scan_opens (S : List UInt8) (q : Nat) (h : (scanS 0 S).2.2 = 0) (hs : S.head? ≠ some 42) : ∀ (k off : Nat), (scanS off (List.replicate k 40 ++ (S ++ 32 :: List.replicate q 41))).1.map (·.1) = List.replicate k tOpen ++ ((scanS 0 S).1.map (·.1) ++ List.replicate q tClose) ∧ (scanS off (List.replicate k 40 ++ (S ++ 32 :: List.replicate q 41))).2.2 = 0
  | 0, off => scan_mid S q off h
  | k + 1, off => by
    obtain ⟨i1, i2⟩ := scan_opens S q h hs k (off + 1)
    have hh : (List.replicate k 40 ++ (S ++ 32 :: List.replicate q 41)).head? ≠ some (42 : UInt8) := by
      cases k with
      | succ k => rw [List.replicate_succ]; intro e; injection e with e; exact absurd e (by decide)
      | zero =>
        cases S with
        | nil => intro e; injection e with e; exact absurd e (by decide)
        | cons c r => exact hs
    rw [List.replicate_succ, List.cons_append, scanS_tok off _ (by simp) _ 1 0 (stp_open _ hh)]
    show _ :: List.map (·.1) (scanS (off + 1) (List.replicate k 40 ++ (S ++ 32 :: List.replicate q 41))).1 = _ ∧ (scanS (off + 1) (List.replicate k 40 ++ (S ++ 32 :: List.replicate q 41))).2.2 = 0
    rw [i1, i2]
    exact ⟨rfl, rfl⟩
theorem rowT_map (S : List UInt8) (h : (scanS 0 S).2.2 = 0) : (rowT S).map (·.1) = (scanS 0 S).1.map (·.1) := by
  unfold rowT
  rw [if_pos h, List.map_map]
  rfl
theorem row_parens (S : List UInt8) (k : Nat) (h : (scanS 0 S).2.2 = 0) (hs : S.head? ≠ some 42) : (rowT (List.replicate k 40 ++ (S ++ 32 :: List.replicate k 41))).map (·.1) = List.replicate k tOpen ++ ((rowT S).map (·.1) ++ List.replicate k tClose) := by
  obtain ⟨i1, i2⟩ := scan_opens S k h hs k 0
  rw [rowT_map _ i2, rowT_map _ h, i1]
theorem tk_map (ts : List TK) (i : Nat) : (tk ts i).1 = ((ts.map (·.1))[i]?).getD zTK.1 := by
  unfold tk
  rw [List.getElem?_map]
  cases ts[i]? <;> rfl
/-- What an operand tells stands for an expression, where no operator is ahead of it or behind. -/
theorem lift_oper {us : List TK} {E : Nat → Re} {i q : Nat} {x : DT} (h : operM us E i = .ok x q) (h1 : isO notT (tk us i) = false) (h2 : isO signT (tk us i) = false) (h3 : isO mulT (tk us q) = false) (h4 : isO sumT (tk us q) = false) (h5 : isO relT (tk us q) = false) : exM us E i = .ok x q := by
  have o1 : opsM us notT (us.length + 1) i = 0 := by unfold opsM; rw [h1]; rfl
  have o2 : opsM us signT 1 i = 0 := by unfold opsM; rw [h2]; rfl
  have f : facM us E i = .ok x q := by
    unfold facM aheadM
    simp only [if_true, o1, Nat.add_zero, h]
    rfl
  have t : termM us E i = .ok x q := by
    unfold termM betwM
    rw [f]
    simp only
    unfold moreM
    rw [h3]; rfl
  have s0 : aheadM us signT false (termM us E) i = .ok x q := by
    unfold aheadM
    simp only [Bool.false_eq_true, if_false, o2, Nat.add_zero, t]
    rfl
  have s : simM us E i = .ok x q := by
    unfold simM betwM
    rw [s0]
    simp only
    unfold moreM
    rw [h4]; rfl
  unfold exM betwM
  rw [s]
  simp only
  unfold moreM
  rw [h5]; rfl
theorem oper_open {us : List TK} {E : Nat → Re} {i q : Nat} {x : DT} (ho : (tk us i).1 = tOpen) (hE : E (i + 1) = .ok x q) (hc : (tk us q).1 = tClose) : operM us E i = .ok x (q + 1) := by
  unfold operM
  have e1 : isS (tk us i) [123] = false := by unfold isS; rw [ho]; rfl
  have e2 : isS (tk us i) [40] = true := by unfold isS; rw [ho]; rfl
  have e3 : isS (tk us q) [41] = true := by unfold isS; rw [hc]; rfl
  rw [if_neg (by rw [ho]; decide), if_neg (by rw [ho]; decide), if_neg (by rw [ho]; decide), if_neg (by rw [ho]; decide), e1, e2, hE]
  simp only [Bool.false_eq_true, if_false, if_true, e3]
/-- An expression does not begin with a star. -/
theorem star_bad {ts : List TK} {E : Nat → Re} {i : Nat} (h : (tk ts i).1 = ⟨5, [42], 0⟩) : exM ts E i = .bad i := by
  have o : operM ts E i = .bad i := by
    unfold operM
    have e1 : isS (tk ts i) [123] = false := by unfold isS; rw [h]; rfl
    have e2 : isS (tk ts i) [40] = false := by unfold isS; rw [h]; rfl
    rw [if_neg (by rw [h]; decide), if_neg (by rw [h]; decide), if_neg (by rw [h]; decide), if_neg (by rw [h]; decide), e1, e2]
    rfl
  have o1 : opsM ts notT (ts.length + 1) i = 0 := by
    unfold opsM
    have : isO notT (tk ts i) = false := by unfold isO; rw [h]; rfl
    rw [this]; rfl
  have o2 : opsM ts signT 1 i = 0 := by
    unfold opsM
    have : isO signT (tk ts i) = false := by unfold isO; rw [h]; rfl
    rw [this]; rfl
  have f : facM ts E i = .bad i := by
    unfold facM aheadM
    simp only [if_true, o1, Nat.add_zero, o]
  have t : termM ts E i = .bad i := by
    unfold termM betwM
    rw [f]
  have s : simM ts E i = .bad i := by
    unfold simM betwM aheadM
    simp only [Bool.false_eq_true, if_false, o2, Nat.add_zero, t]
  unfold exM betwM
  rw [s]
theorem star_first (S : List UInt8) (h : (scanS 0 S).2.2 = 0) (hs : S.head? = some 42) : (tk (rowT S) 0).1 = ⟨5, [42], 0⟩ := by
  cases S with
  | nil => cases hs
  | cons c r =>
    obtain rfl : c = 42 := Option.some.inj hs
    have hst : stp (42 :: r) = (some ⟨5, [42], 0⟩, 1, 0) := by
      refine stp_one 42 r (by decide) (by decide) (by decide) (by decide) ?_ ?_
      · cases r with
        | nil => simp
        | cons a r => simp
      · unfold symb
        rw [if_neg]
        · rfl
        · rw [List.contains_iff_mem]
          unfold syms2
          cases r with
          | nil => simp
          | cons a r => simp
    rw [tk_map, rowT_map _ h, scanS_tok 0 _ (by simp) _ 1 0 hst]
    rfl
/-- PARENTHESES AROUND AN EXPRESSION MAKE NO DIFFERENCE BUT TO PLACES. -/
theorem parens (S : List UInt8) (k n : Nat) (d : DT) (h : (scanS 0 S).2.2 = 0) (hn : (rowT S).length = n) (he : exprM (rowT S) (n + 2) 0 = .ok d n) :
    ∃ d', exprM (rowT (List.replicate k 40 ++ (S ++ 32 :: List.replicate k 41))) ((rowT (List.replicate k 40 ++ (S ++ 32 :: List.replicate k 41))).length + 2) 0 = .ok d' (n + 2 * k) ∧ simD d d' := by
  have hs : S.head? ≠ some 42 := fun e => by
    have := star_bad (E := exprM (rowT S) (n + 1)) (star_first S h e)
    have he' : exM (rowT S) (exprM (rowT S) (n + 1)) 0 = .ok d n := he
    rw [this] at he'
    cases he'
  have hm := row_parens S k h hs
  obtain ⟨us, hus⟩ : ∃ us, rowT (List.replicate k 40 ++ (S ++ 32 :: List.replicate k 41)) = us := ⟨_, rfl⟩
  obtain ⟨ts, hts⟩ : ∃ ts, rowT S = ts := ⟨_, rfl⟩
  rw [hus, hts] at hm
  rw [hus]
  rw [hts] at hn he
  clear hus hts hs h
  have hlen : us.length = n + 2 * k := by
    have := congrArg List.length hm
    simp only [List.length_map, List.length_append, List.length_replicate] at this
    omega
  have hopen : ∀ i, i < k → (tk us i).1 = tOpen := fun i hi => by
    rw [tk_map, hm, List.getElem?_append_left (by rw [List.length_replicate]; exact hi), List.getElem?_replicate, if_pos hi]
    rfl
  have hmid : ∀ i, i < n → (tk us (i + k)).1 = (tk ts i).1 := fun i hi => by
    rw [tk_map, tk_map, hm, List.getElem?_append_right (by rw [List.length_replicate]; omega), List.length_replicate, Nat.add_sub_cancel, List.getElem?_append_left (by rw [List.length_map]; omega)]
  have hclose : ∀ i, i < k → (tk us (n + k + i)).1 = tClose := fun i hi => by
    rw [tk_map, hm, List.getElem?_append_right (by rw [List.length_replicate]; omega), List.length_replicate, List.getElem?_append_right (by rw [List.length_map]; omega), List.length_map, hn, show n + k + i - k - n = i by omega, List.getElem?_replicate, if_pos hi]
    rfl
  have hend : (tk us (n + k + k)).1 = zTK.1 := by rw [tk_ge (by omega)]
  have hafter : ∀ j, j ≤ k → (tk us (n + k + j)).1 = tClose ∨ (tk us (n + k + j)).1 = zTK.1 := fun j hj => by
    rcases Nat.lt_or_ge j k with h | h
    · exact .inl (hclose j h)
    · obtain rfl : j = k := by omega
      exact .inr hend
  have A : Shf k ts us := ⟨fun i hi => hmid i (by omega), by
    rw [hn]
    rcases hafter 0 (Nat.zero_le _) with h | h
    · rw [Nat.add_zero] at h; rw [h]; rfl
    · rw [Nat.add_zero] at h; rw [h]; rfl⟩
  have hstep : ∀ j, j ≤ k → ∃ d', exprM us (us.length + 2 - k + j) (k - j) = .ok d' (n + k + j) ∧ simD d d' := by
    intro j
    induction j with
    | zero =>
      intro _
      have hf := fin_expr (ts := us) (us.length + 2 - k) k (by omega) (by omega)
      obtain ⟨d', e, hd⟩ := up_expr A (n + 2) (us.length + 2 - k) 0 (Nat.zero_le _) d n he (by rw [Nat.zero_add]; exact hf)
      rw [Nat.zero_add] at e
      exact ⟨d', e, hd⟩
    | succ j ih =>
      intro hj
      obtain ⟨d', e, hd⟩ := ih (by omega)
      refine ⟨d', ?_, hd⟩
      have ho := hopen (k - (j + 1)) (by omega)
      have hc := hclose j (by omega)
      rw [show k - j = k - (j + 1) + 1 by omega] at e
      have hop := oper_open (E := exprM us (us.length + 2 - k + j)) ho e hc
      have ha := hafter (j + 1) hj
      rw [show n + k + (j + 1) = n + k + j + 1 by omega] at ha ⊢
      show exM us (exprM us (us.length + 2 - k + j)) (k - (j + 1)) = _
      refine lift_oper hop (by unfold isO; rw [ho]; rfl) (by unfold isO; rw [ho]; rfl) ?_ ?_ ?_
      · unfold isO; rcases ha with h | h <;> rw [h] <;> rfl
      · unfold isO; rcases ha with h | h <;> rw [h] <;> rfl
      · unfold isO; rcases ha with h | h <;> rw [h] <;> rfl
  obtain ⟨d', e, hd⟩ := hstep k (Nat.le_refl _)
  rw [show us.length + 2 - k + k = us.length + 2 by omega, Nat.sub_self, show n + k + k = n + 2 * k by omega] at e
  exact ⟨d', e, hd⟩
/-- Same, of trees. -/
theorem len_simL : ∀ {a b : List DT}, simL a b → a.length = b.length
  | [], [], _ => rfl
  | t :: r, u :: s, h => by have := len_simL h.2; simp [this]
  | [], _ :: _, h => h.elim
  | _ :: _, [], h => h.elim
end Go.Proofs.Ytnaihncmichfaaa
