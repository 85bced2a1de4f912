/- Layer 6 by plain functions: a row that stands in another one, with what ends an expression behind it, tells the same there. No program stands in here. -/
import Derived.Test.YtnaihncmichfaaaMpA
namespace Go.Proofs.Ytnaihncmichfaaa
open Go.RowKit
set_option maxHeartbeats 1000000
set_option linter.unusedVariables false
set_option linter.unusedSimpArgs false

mutual
/-- The same tree, but for places. -/
def simD : DT → DT → Prop
  | .node d ks, .node e ls => (d.k = e.k ∧ d.x = e.x ∧ d.n = e.n) ∧ simL ks ls
def simL : List DT → List DT → Prop
  | [], [] => True
  | t :: r, u :: s => simD t u ∧ simL r s
  | [], _ :: _ => False
  | _ :: _, [] => False
end
theorem simL_app : ∀ {a b c d : List DT}, simL a b → simL c d → simL (a ++ c) (b ++ d)
  | [], [], _, _, _, h => h
  | t :: r, u :: s, _, _, h, h2 => ⟨h.1, simL_app h.2 h2⟩
  | [], _ :: _, _, _, h, _ => h.elim
  | _ :: _, [], _, _, h, _ => h.elim
/-- What ends an expression: no name, no number, no string, no operator, nothing that goes on. -/
def stopB (t : T0) : Bool := !(t.k == 1) && !(t.k == 2) && !(t.k == 3) && !(t.k == 4) && !(t.k == 5 && ([[46], [94], [91], [44], [46, 46], [123], [40]] : List (List UInt8)).contains t.x) &&
  !(relT.lookup t.x == some t.k) && !(signT.lookup t.x == some t.k) && !(sumT.lookup t.x == some t.k) && !(mulT.lookup t.x == some t.k) && !(notT.lookup t.x == some t.k)
/-- The row ts stands in us from k on, and what ends it behind. -/
structure Shf (k : Nat) (ts us : List TK) : Prop where
  at' : ∀ i, i < ts.length → (tk us (i + k)).1 = (tk ts i).1
  stop : stopB (tk us (ts.length + k)).1 = true
def Up (k : Nat) (r r' : Re) : Prop := ∀ d j, r = .ok d j → r' ≠ .out → ∃ d', r' = .ok d' (j + k) ∧ simD d d'
def UpL (k : Nat) (r r' : ReL) : Prop := ∀ d j, r = .ok d j → r' ≠ .out → ∃ d', r' = .ok d' (j + k) ∧ simL d d'
def UpE (L k : Nat) (E E' : Nat → Re) : Prop := ∀ i, i ≤ L → Up k (E i) (E' (i + k))
theorem Up.ok {k j : Nat} {d d' : DT} (h : simD d d') : Up k (.ok d j) (.ok d' (j + k)) := fun _ _ e _ => by cases e; exact ⟨d', rfl, h⟩
theorem UpL.ok {k j : Nat} {d d' : List DT} (h : simL d d') : UpL k (.ok d j) (.ok d' (j + k)) := fun _ _ e _ => by cases e; exact ⟨d', rfl, h⟩
theorem Up.bad {k j : Nat} {r : Re} : Up k (.bad j) r := fun _ _ e _ => by cases e
theorem UpL.bad {k j : Nat} {r : ReL} : UpL k (.bad j) r := fun _ _ e _ => by cases e
theorem Up.out {k : Nat} {r : Re} : Up k .out r := fun _ _ e _ => by cases e
theorem UpL.out {k : Nat} {r : ReL} : UpL k .out r := fun _ _ e _ => by cases e
theorem Up.none {k : Nat} {r : Re} : Up k r .out := fun _ _ _ h => absurd rfl h
theorem UpL.none {k : Nat} {r : ReL} : UpL k r .out := fun _ _ _ h => absurd rfl h
theorem up_bind {k : Nat} {r r' : Re} {K K' : DT → Nat → Re} (h : Up k r r') (hK : ∀ x j x', r = .ok x j → simD x x' → Up k (K x j) (K' x' (j + k))) : Up k (r.bnd K) (r'.bnd K') := by
  intro d j he hne
  cases r with
  | ok x j0 =>
    obtain ⟨x', e, s⟩ := h x j0 rfl (fun e => hne (by rw [e]; rfl))
    subst e
    exact hK x j0 x' rfl s d j he hne
  | bad j0 => cases he
  | out => cases he
theorem up_bindL {k : Nat} {r r' : Re} {K K' : DT → Nat → ReL} (h : Up k r r') (hK : ∀ x j x', r = .ok x j → simD x x' → UpL k (K x j) (K' x' (j + k))) : UpL k (r.bndL K) (r'.bndL K') := by
  intro d j he hne
  cases r with
  | ok x j0 =>
    obtain ⟨x', e, s⟩ := h x j0 rfl (fun e => hne (by rw [e]; rfl))
    subst e
    exact hK x j0 x' rfl s d j he hne
  | bad j0 => cases he
  | out => cases he
theorem upL_bind {k : Nat} {r r' : ReL} {K K' : List DT → Nat → ReL} (h : UpL k r r') (hK : ∀ x j x', r = .ok x j → simL x x' → UpL k (K x j) (K' x' (j + k))) : UpL k (r.bnd K) (r'.bnd K') := by
  intro d j he hne
  cases r with
  | ok x j0 =>
    obtain ⟨x', e, s⟩ := h x j0 rfl (fun e => hne (by rw [e]; rfl))
    subst e
    exact hK x j0 x' rfl s d j he hne
  | bad j0 => cases he
  | out => cases he
theorem UpL.re {k : Nat} {r r' : ReL} (h : UpL k r r') {f g : List DT → DT} (hf : ∀ l l', simL l l' → simD (f l) (g l')) : Up k (r.re f) (r'.re g) := by
  intro d j he hne
  cases r with
  | ok l j0 =>
    obtain ⟨x', e, s⟩ := h l j0 rfl (fun e => hne (by rw [e]; rfl))
    subst e
    cases he
    exact ⟨_, rfl, hf _ _ s⟩
  | bad j0 => cases he
  | out => cases he
section
variable {k : Nat} {ts us : List TK} (A : Shf k ts us)
include A
theorem Shf.isS {i : Nat} (hi : i ≤ ts.length) (s : List UInt8) (hs : s ∈ ([[46], [94], [91], [44], [46, 46], [123], [40]] : List (List UInt8))) : isS (tk us (i + k)) s = isS (tk ts i) s := by
  rcases Nat.lt_or_ge i ts.length with h | h
  · unfold Go.Proofs.Ytnaihncmichfaaa.isS; rw [A.at' i h]
  · obtain rfl : i = ts.length := Nat.le_antisymm hi h
    have h1 := A.stop
    have e2 : Go.Proofs.Ytnaihncmichfaaa.isS (tk ts ts.length) s = false := by
      rw [tk_ge (Nat.le_refl _)]
      rfl
    rw [e2]
    unfold stopB at h1
    simp only [Bool.and_eq_true, Bool.not_eq_true'] at h1
    have h2 := h1.1.1.1.1.1.2
    unfold Go.Proofs.Ytnaihncmichfaaa.isS
    cases hk : ((tk us (ts.length + k)).1.k == 5) with
    | false => rfl
    | true =>
      rw [hk, Bool.true_and] at h2
      rw [Bool.true_and]
      refine beq_eq_false_iff_ne.2 fun e => ?_
      rw [e] at h2
      rw [List.contains_iff_mem.2 hs] at h2
      cases h2
theorem Shf.kS {i : Nat} (hi : i ≤ ts.length) {c : Nat} (hc : c = 1 ∨ c = 2 ∨ c = 3 ∨ c = 4) : ((tk us (i + k)).1.k = c) = ((tk ts i).1.k = c) := by
  rcases Nat.lt_or_ge i ts.length with h | h
  · rw [A.at' i h]
  · obtain rfl : i = ts.length := Nat.le_antisymm hi h
    have h1 := A.stop
    rw [tk_ge (Nat.le_refl _)]
    unfold stopB at h1
    simp only [Bool.and_eq_true, Bool.not_eq_true', beq_eq_false_iff_ne] at h1
    have hz : (zTK.1.k = c) = False := by
      refine propext ⟨fun e => ?_, False.elim⟩
      have e' : (0 : Nat) = c := e
      omega
    rw [hz]
    refine propext ⟨fun e => ?_, False.elim⟩
    obtain ⟨⟨⟨⟨⟨⟨⟨⟨⟨g1, g2⟩, g3⟩, g4⟩, _⟩, _⟩, _⟩, _⟩, _⟩, _⟩ := h1
    omega
theorem Shf.isO {i : Nat} (hi : i ≤ ts.length) {tb : List (List UInt8 × Nat)} (hz : tb.lookup [] = none) (ht : tb = relT ∨ tb = signT ∨ tb = sumT ∨ tb = mulT ∨ tb = notT) : isO tb (tk us (i + k)) = isO tb (tk ts i) := by
  rcases Nat.lt_or_ge i ts.length with h | h
  · unfold Go.Proofs.Ytnaihncmichfaaa.isO; rw [A.at' i h]
  · obtain rfl : i = ts.length := Nat.le_antisymm hi h
    have h1 := A.stop
    have e2 : Go.Proofs.Ytnaihncmichfaaa.isO tb (tk ts ts.length) = false := by
      cases ho : Go.Proofs.Ytnaihncmichfaaa.isO tb (tk ts ts.length) with
      | false => rfl
      | true => exact absurd (isO_lt hz ho) (Nat.lt_irrefl _)
    rw [e2]
    unfold stopB at h1
    simp only [Bool.and_eq_true, Bool.not_eq_true'] at h1
    obtain ⟨⟨⟨⟨⟨⟨⟨⟨⟨g1, g2⟩, g3⟩, g4⟩, _⟩, q1⟩, q2⟩, q3⟩, q4⟩, q5⟩ := h1
    unfold Go.Proofs.Ytnaihncmichfaaa.isO
    rcases ht with rfl | rfl | rfl | rfl | rfl
    · exact q1
    · exact q2
    · exact q3
    · exact q4
    · exact q5
theorem up_dot {x x' y : DT} {i : Nat} (hi : i + 1 < ts.length) (hx : simD x x') (h : dotM ts x i = some y) : ∃ y', dotM us x' (i + k) = some y' ∧ simD y y' := by
  unfold dotM at h ⊢
  have e1 := A.at' (i + 1) hi
  rw [show i + 1 + k = i + k + 1 by omega] at e1
  split at h
  · rename_i hk
    rw [if_pos (by rw [e1]; exact hk)]
    cases h
    exact ⟨_, rfl, ⟨rfl, by show (tk ts (i + 1)).1.x = (tk us (i + k + 1)).1.x; rw [e1], rfl⟩, hx, trivial⟩
  · cases h
theorem up_dots : ∀ (m m' : Nat) (x x' : DT) (i : Nat), i ≤ ts.length → simD x x' → Up k (dotsM ts m x i) (dotsM us m' x' (i + k))
  | 0, _, _, _, _, _, _ => Up.out
  | _ + 1, 0, _, _, _, _, _ => Up.none
  | m + 1, m' + 1, x, x', i, hi, hx => by
    unfold dotsM
    rw [A.isS hi [46] (by decide)]
    by_cases hs : isS (tk ts i) [46] = true
    · rw [if_pos hs, if_pos hs]
      cases ho : dotM ts x i with
      | none => exact Up.bad
      | some y =>
        have hd := dot_lt ho
        obtain ⟨y', e, hy⟩ := up_dot A hd hx ho
        rw [e]
        have := up_dots m m' y y' (i + 2) (by omega) hy
        rw [show i + 2 + k = i + k + 2 by omega] at this
        exact this
    · rw [if_neg hs, if_neg hs]
      exact Up.ok hx
theorem up_qual : UpE ts.length k (qualM ts) (qualM us) := fun i hi => by
  unfold qualM
  by_cases hs : (tk ts i).1.k = 1
  · have hl := k_lt (ts := ts) (i := i) (by rw [hs]; decide)
    have e0 := A.at' i hl
    rw [if_pos hs, if_pos (by rw [e0]; exact hs)]
    have := up_dots A (ts.length + 1) (us.length + 1) (.node (nd 1 (tk ts i) (tk ts i).1.x 0) []) (.node (nd 1 (tk us (i + k)) (tk us (i + k)).1.x 0) []) (i + 1) (by omega) ⟨⟨rfl, by show (tk ts i).1.x = (tk us (i + k)).1.x; rw [e0], rfl⟩, trivial⟩
    rw [show i + 1 + k = i + k + 1 by omega] at this
    exact this
  · rw [if_neg hs]
    exact Up.bad
theorem up_sel {E E' : Nat → Re} (hE : Bnd ts.length E) (hA : UpE ts.length k E E') : ∀ (m m' : Nat) (f : Bool) (x x' : DT) (i : Nat), i ≤ ts.length → (f = true → i < ts.length) → simD x x' → Up k (selM ts E m f x i) (selM us E' m' f x' (i + k))
  | 0, _, _, _, _, _, _, _, _ => by unfold selM; exact Up.out
  | _ + 1, 0, _, _, _, _, _, _, _ => fun _ _ _ h => absurd (by unfold selM; rfl) h
  | m + 1, m' + 1, false, x, x', i, hi, _, hx => by
    unfold selM
    rw [A.isS hi [46] (by decide), A.isS hi [94] (by decide), A.isS hi [91] (by decide)]
    by_cases hs : isS (tk ts i) [46] = true
    · rw [if_pos hs, if_pos hs]
      cases ho : dotM ts x i with
      | none => exact Up.bad
      | some y =>
        have hd := dot_lt ho
        obtain ⟨y', e, hy⟩ := up_dot A hd hx ho
        rw [e]
        have := up_sel hE hA m m' false y y' (i + 2) (by omega) (by simp) hy
        rw [show i + 2 + k = i + k + 2 by omega] at this
        exact this
    · rw [if_neg hs, if_neg hs]
      by_cases hs2 : isS (tk ts i) [94] = true
      · have hl := isS_lt hs2
        rw [if_pos hs2, if_pos hs2]
        have := up_sel hE hA m m' false (.node (nd 4 (tk ts i) [] 0) [x]) (.node (nd 4 (tk us (i + k)) [] 0) [x']) (i + 1) (by omega) (by simp) ⟨⟨rfl, rfl, rfl⟩, hx, trivial⟩
        rw [show i + 1 + k = i + k + 1 by omega] at this
        exact this
      · rw [if_neg hs2, if_neg hs2]
        by_cases hs3 : isS (tk ts i) [91] = true
        · have hl := isS_lt hs3
          rw [if_pos hs3, if_pos hs3]
          exact up_sel hE hA m m' true x x' i hi (fun _ => hl) hx
        · rw [if_neg hs3, if_neg hs3]
          exact Up.ok hx
  | m + 1, m' + 1, true, x, x', i, hi, hf, hx => by
    have hl := hf rfl
    have hb := hE (i + 1) (by omega)
    have h1 := hA (i + 1) (by omega)
    rw [show i + 1 + k = i + k + 1 by omega] at h1
    unfold selM
    refine up_bind (K := fun e j => if isS (tk ts j) [44] then selM ts E m true (.node (nd 3 (tk ts i) [] 0) [x, e]) j else if isS (tk ts j) [93] then selM ts E m false (.node (nd 3 (tk ts i) [] 0) [x, e]) (j + 1) else .bad j) (K' := fun e j => if isS (tk us j) [44] then selM us E' m' true (.node (nd 3 (tk us (i + k)) [] 0) [x', e]) j else if isS (tk us j) [93] then selM us E' m' false (.node (nd 3 (tk us (i + k)) [] 0) [x', e]) (j + 1) else .bad j) h1 (fun e j e' he hs => ?_)
    have hj := hb.1 e j he
    try dsimp only
    rw [A.isS hj.2 [44] (by decide)]
    by_cases hs1 : isS (tk ts j) [44] = true
    · have := isS_lt hs1
      rw [if_pos hs1, if_pos hs1]
      exact up_sel hE hA m m' true _ _ j hj.2 (fun _ => this) ⟨⟨rfl, rfl, rfl⟩, hx, hs, trivial⟩
    · rw [if_neg hs1, if_neg hs1]
      by_cases hs2 : isS (tk ts j) [93] = true
      · have hl2 := isS_lt hs2
        have hs2' : isS (tk us (j + k)) [93] = true := by unfold isS at hs2 ⊢; rw [A.at' j hl2]; exact hs2
        rw [if_pos hs2, if_pos hs2']
        have := up_sel hE hA m m' false (.node (nd 3 (tk ts i) [] 0) [x, e]) (.node (nd 3 (tk us (i + k)) [] 0) [x', e']) (j + 1) (by omega) (by simp) ⟨⟨rfl, rfl, rfl⟩, hx, hs, trivial⟩
        rw [show j + 1 + k = j + k + 1 by omega] at this
        exact this
      · rw [if_neg hs2]
        exact Up.bad
theorem up_lst {I I' : Nat → Re} (hI : Bnd ts.length I) (hA : UpE ts.length k I I') : ∀ (m m' : Nat) (acc acc' : List DT) (i : Nat), i ≤ ts.length → simL acc acc' → UpL k (lstM ts I m acc i) (lstM us I' m' acc' (i + k))
  | 0, _, _, _, _, _, _ => UpL.out
  | _ + 1, 0, _, _, _, _, _ => UpL.none
  | m + 1, m' + 1, acc, acc', i, hi, ha => by
    have hb := hI i hi
    unfold lstM
    refine up_bindL (K := fun t j => if isS (tk ts j) [44] then lstM ts I m (acc ++ [t]) (j + 1) else .ok (acc ++ [t]) j) (K' := fun t j => if isS (tk us j) [44] then lstM us I' m' (acc' ++ [t]) (j + 1) else .ok (acc' ++ [t]) j) (hA i hi) (fun e j e' he hs => ?_)
    have hj := hb.1 e j he
    try dsimp only
    rw [A.isS hj.2 [44] (by decide)]
    have hac : simL (acc ++ [e]) (acc' ++ [e']) := simL_app ha ⟨hs, trivial⟩
    by_cases hs1 : isS (tk ts j) [44] = true
    · have := isS_lt hs1
      rw [if_pos hs1, if_pos hs1]
      have := up_lst hI hA m m' (acc ++ [e]) (acc' ++ [e']) (j + 1) (by omega) hac
      rw [show j + 1 + k = j + k + 1 by omega] at this
      exact this
    · rw [if_neg hs1, if_neg hs1]
      exact UpL.ok hac
theorem up_elem {E E' : Nat → Re} (hE : Bnd ts.length E) (hA : UpE ts.length k E E') : UpE ts.length k (elemM ts E) (elemM us E') := fun i hi => by
  have hb := hE i hi
  unfold elemM
  refine up_bind (K := fun lo j => elTl ts E (tk ts i) lo j) (K' := fun lo j => elTl us E' (tk us (i + k)) lo j) (hA i hi) (fun e j e' he hs => ?_)
  have hj := hb.1 e j he
  try dsimp only
  unfold elTl
  rw [A.isS hj.2 [46, 46] (by decide)]
  by_cases hs1 : isS (tk ts j) [46, 46] = true
  · have hl := isS_lt hs1
    rw [if_pos hs1, if_pos hs1]
    have h1 := hA (j + 1) (by omega)
    rw [show j + 1 + k = j + k + 1 by omega] at h1
    refine up_bind (K := fun hi q => .ok (.node (nd 9 (tk ts i) [] 0) [e, hi]) q) (K' := fun hi q => .ok (.node (nd 9 (tk us (i + k)) [] 0) [e', hi]) q) h1 (fun g q g' hg hs2 => ?_)
    exact Up.ok ⟨⟨rfl, rfl, rfl⟩, hs, hs2, trivial⟩
  · rw [if_neg hs1, if_neg hs1]
    exact Up.ok hs
theorem up_same {q : Nat} {e : List UInt8} (h : isS (tk ts q) e = true) : isS (tk us (q + k)) e = true := by
  have hl := isS_lt h
  unfold isS at h ⊢
  rw [A.at' q hl]; exact h
theorem up_with {I I' : Nat → Re} (hI : Bnd ts.length I) (hM : Mono I) (hA : UpE ts.length k I I') (e : List UInt8) (i : Nat) (hi : i < ts.length) : UpL k (withM ts e I i) (withM us e I' (i + k)) := by
  intro d j he hne
  unfold withM at he hne ⊢
  by_cases hs : isS (tk ts (i + 1)) e = true
  · have h2 := up_same A hs
    rw [show i + 1 + k = i + k + 1 by omega] at h2
    rw [if_pos hs] at he
    rw [if_pos h2]
    cases he
    exact ⟨[], by rw [show i + 2 + k = i + k + 2 by omega], trivial⟩
  · rw [if_neg hs] at he
    have hlok : i + 1 < ts.length := by
      cases hq : lstM ts I (ts.length + 1) [] (i + 1) with
      | ok l j =>
        have h1 := mono_lst hM _ _ _ _ _ hq
        have h2 := (bd_lst hI (ts.length + 1) [] (i + 1) (by omega)).1 _ _ hq
        omega
      | bad j => rw [hq] at he; cases he
      | out => rw [hq] at he; cases he
    have h2 : ¬ isS (tk us (i + k + 1)) e = true := by
      have e1 := A.at' (i + 1) hlok
      rw [show i + 1 + k = i + k + 1 by omega] at e1
      unfold isS at hs ⊢
      rw [e1]; exact hs
    rw [if_neg h2] at hne ⊢
    have h3 := up_lst A hI hA (ts.length + 1) (us.length + 1) [] [] (i + 1) (by omega) trivial
    rw [show i + 1 + k = i + k + 1 by omega] at h3
    refine upL_bind (K := fun l j => if isS (tk ts j) e then .ok l (j + 1) else .bad j) (K' := fun l j => if isS (tk us j) e then .ok l (j + 1) else .bad j) h3 (fun l q l' hl hs2 => ?_) d j he hne
    try dsimp only
    by_cases hs3 : isS (tk ts q) e = true
    · rw [if_pos hs3, if_pos (up_same A hs3)]
      have := UpL.ok (k := k) (j := q + 1) hs2
      rw [show q + 1 + k = q + k + 1 by omega] at this
      exact this
    · rw [if_neg hs3]
      exact UpL.bad
theorem up_nmd {E E' : Nat → Re} (hE : Bnd ts.length E) (hM : Mono E) (hA : UpE ts.length k E E') : UpE ts.length k (nmdM ts E) (nmdM us E') := fun i hi => by
  have hb := bd_qual (ts := ts) i hi
  unfold nmdM
  refine up_bind (K := fun x j => if isS (tk ts j) [123] then setM ts E (tk ts i) (some x) j else Re.bnd (selM ts E (2 * ts.length + 2) false x j) fun y q => if isS (tk ts q) [40] then callM ts E y q else .ok y q) (K' := fun x j => if isS (tk us j) [123] then setM us E' (tk us (i + k)) (some x) j else Re.bnd (selM us E' (2 * us.length + 2) false x j) fun y q => if isS (tk us q) [40] then callM us E' y q else .ok y q) (up_qual A i hi) (fun x j x' he hx => ?_)
  have hj := hb.1 x j he
  try dsimp only
  rw [A.isS hj.2 [123] (by decide)]
  by_cases hs : isS (tk ts j) [123] = true
  · rw [if_pos hs, if_pos hs]
    exact (up_with A (bd_elem hE) (mono_elem hM) (up_elem A hE hA) [125] j (isS_lt hs)).re (fun l l' hl => ⟨⟨rfl, rfl, rfl⟩, hx, hl⟩)
  · rw [if_neg hs, if_neg hs]
    have hb2 := bd_sel hE (2 * ts.length + 2) false x j hj.2 (by simp)
    refine up_bind (up_sel A hE hA (2 * ts.length + 2) (2 * us.length + 2) false x x' j hj.2 (by simp) hx) (fun y q y' hq hy => ?_)
    have hqq := hb2.1 y q hq
    try dsimp only
    rw [A.isS hqq.2 [40] (by decide)]
    by_cases hs : isS (tk ts q) [40] = true
    · rw [if_pos hs, if_pos hs]
      exact (up_with A hE hM hA [41] q (isS_lt hs)).re (fun l l' hl => ⟨⟨rfl, rfl, rfl⟩, hy, hl⟩)
    · rw [if_neg hs, if_neg hs]
      exact Up.ok hy
theorem up_oper {E E' : Nat → Re} (hE : Bnd ts.length E) (hM : Mono E) (hA : UpE ts.length k E E') : UpE ts.length k (operM ts E) (operM us E') := fun i hi => by
  have hone : ∀ {m c : Nat} {x y : List UInt8} {z z' : Int} (hc : (tk ts i).1.k = c) (h4 : c ≠ 0), x = y → z = z' → Up k (.ok (.node (nd m (tk ts i) x z) []) (i + 1)) (.ok (.node (nd m (tk us (i + k)) y z') []) (i + k + 1)) := by
    intro m c x y z z' hc h4 hx hz
    have := Up.ok (k := k) (j := i + 1) (d := .node (nd m (tk ts i) x z) []) (d' := .node (nd m (tk us (i + k)) y z') []) ⟨⟨rfl, hx, hz⟩, trivial⟩
    rw [show i + 1 + k = i + k + 1 by omega] at this
    exact this
  unfold operM
  rw [A.isS hi [123] (by decide), A.isS hi [40] (by decide)]
  simp only [A.kS hi (.inl rfl), A.kS hi (.inr (.inl rfl)), A.kS hi (.inr (.inr (.inl rfl))), A.kS hi (.inr (.inr (.inr rfl)))]
  split
  · exact up_nmd A hE hM hA i hi
  split
  · rename_i h
    have e0 := A.at' i (k_lt (ts := ts) (i := i) (by rw [h]; decide))
    exact hone h (by decide) rfl (by rw [e0])
  split
  · rename_i h
    have e0 := A.at' i (k_lt (ts := ts) (i := i) (by rw [h]; decide))
    exact hone h (by decide) rfl (by rw [e0])
  split
  · rename_i h
    have e0 := A.at' i (k_lt (ts := ts) (i := i) (by rw [h]; decide))
    exact hone h (by decide) (by rw [e0]) rfl
  split
  · rename_i hs
    exact (up_with A (bd_elem hE) (mono_elem hM) (up_elem A hE hA) [125] i (isS_lt hs)).re (fun l l' hl => ⟨⟨rfl, rfl, rfl⟩, ⟨⟨rfl, rfl, rfl⟩, trivial⟩, hl⟩)
  split
  · rename_i hs
    have hl := isS_lt hs
    have h1 := hA (i + 1) (by omega)
    rw [show i + 1 + k = i + k + 1 by omega] at h1
    refine up_bind (K := fun x j => if isS (tk ts j) [41] then .ok x (j + 1) else .bad j) (K' := fun x j => if isS (tk us j) [41] then .ok x (j + 1) else .bad j) h1 (fun x j x' he hx => ?_)
    try dsimp only
    by_cases hs : isS (tk ts j) [41] = true
    · rw [if_pos hs, if_pos (up_same A hs)]
      have := Up.ok (k := k) (j := j + 1) hx
      rw [show j + 1 + k = j + k + 1 by omega] at this
      exact this
    · rw [if_neg hs]
      exact Up.bad
  · exact Up.bad
theorem up_ops {tb : List (List UInt8 × Nat)} (hz : tb.lookup [] = none) (ht : tb = relT ∨ tb = signT ∨ tb = sumT ∨ tb = mulT ∨ tb = notT) : ∀ (m m' i : Nat), i ≤ ts.length → 1 ≤ m' → us.length + 1 ≤ m' + (i + k) → opsM ts tb m i < m → opsM us tb m' (i + k) = opsM ts tb m i
  | 0, _, _, _, _, _, h => absurd h (by omega)
  | m + 1, 0, _, _, h, _, _ => absurd h (by omega)
  | m + 1, m' + 1, i, hi, _, hm, h1 => by
    unfold opsM at h1 ⊢
    have e0 := A.isO hi hz ht
    rw [e0]
    by_cases ho : isO tb (tk ts i) = true
    · rw [if_pos ho] at h1 ⊢
      rw [if_pos ho]
      have hl : i < ts.length := isO_lt hz ho
      have hl2 : i + k < us.length := isO_lt hz (by rw [e0]; exact ho)
      have := up_ops hz ht m m' (i + 1) (by omega) (by omega) (by omega) (by omega)
      rw [show i + 1 + k = i + k + 1 by omega] at this
      rw [this]
    · rw [if_neg ho, if_neg ho]
theorem up_wrap (i : Nat) : ∀ (n : Nat) (x x' : DT), i + n ≤ ts.length → simD x x' → simD (wrapM ts i n x) (wrapM us (i + k) n x')
  | 0, _, _, _, hx => hx
  | n + 1, x, x', h, hx => by
    unfold wrapM
    have e0 := A.at' (i + n) (by omega)
    rw [show i + n + k = i + k + n by omega] at e0
    exact up_wrap i n _ _ (by omega) ⟨⟨rfl, by show (tk ts (i + n)).1.x = (tk us (i + k + n)).1.x; rw [e0], rfl⟩, hx, trivial⟩
theorem up_ahead {tb : List (List UInt8 × Nat)} (hz : tb.lookup [] = none) (ht : tb = relT ∨ tb = signT ∨ tb = sumT ∨ tb = mulT ∨ tb = notT) {again : Bool} {G G' : Nat → Re} (hG : Bnd ts.length G) (hA : UpE ts.length k G G') : UpE ts.length k (aheadM ts tb again G) (aheadM us tb again G') := fun i hi => by
  obtain ⟨c, hc⟩ : ∃ c, opsM ts tb (if again then ts.length + 1 else 1) i = c := ⟨_, rfl⟩
  have hb := bd_ops (ts := ts) hz (if again then ts.length + 1 else 1) i hi
  rw [hc] at hb
  have hu : opsM us tb (if again then us.length + 1 else 1) (i + k) = c := by
    cases again with
    | false =>
      have e0 := A.isO hi hz ht
      have hc' : opsM ts tb 1 i = c := hc
      show opsM us tb 1 (i + k) = c
      rw [← hc']
      simp only [opsM, e0]
    | true =>
      have hc' : opsM ts tb (ts.length + 1) i = c := hc
      exact (up_ops A hz ht (ts.length + 1) (us.length + 1) i hi (by omega) (by omega) (by omega)).trans hc'
  unfold aheadM
  rw [hc, hu]
  have h1 := hA (i + c) hb
  rw [show i + c + k = i + k + c by omega] at h1
  refine up_bind (K := fun x j => .ok (wrapM ts i c x) j) (K' := fun x j => .ok (wrapM us (i + k) c x) j) h1 (fun x j x' he hx => ?_)
  exact Up.ok (up_wrap A i c x x' hb hx)
theorem up_more {tb : List (List UInt8 × Nat)} (hz : tb.lookup [] = none) (ht : tb = relT ∨ tb = signT ∨ tb = sumT ∨ tb = mulT ∨ tb = notT) {again : Bool} {G G' : Nat → Re} (hG : Bnd ts.length G) (hA : UpE ts.length k G G') : ∀ (m m' : Nat) (x x' : DT) (i : Nat), i ≤ ts.length → simD x x' → Up k (moreM ts tb again G m x i) (moreM us tb again G' m' x' (i + k))
  | 0, _, _, _, _, _, _ => Up.out
  | _ + 1, 0, _, _, _, _, _ => Up.none
  | m + 1, m' + 1, x, x', i, hi, hx => by
    unfold moreM
    rw [A.isO hi hz ht]
    by_cases ho : isO tb (tk ts i) = true
    · have hl := isO_lt hz ho
      have e0 := A.at' i hl
      have hb := hG (i + 1) (by omega)
      have h1 := hA (i + 1) (by omega)
      rw [show i + 1 + k = i + k + 1 by omega] at h1
      rw [if_pos ho, if_pos ho]
      refine up_bind (K := fun y j => if again then moreM ts tb again G m (.node (nd 11 (tk ts i) (tk ts i).1.x 0) [x, y]) j else .ok (.node (nd 11 (tk ts i) (tk ts i).1.x 0) [x, y]) j) (K' := fun y j => if again then moreM us tb again G' m' (.node (nd 11 (tk us (i + k)) (tk us (i + k)).1.x 0) [x', y]) j else .ok (.node (nd 11 (tk us (i + k)) (tk us (i + k)).1.x 0) [x', y]) j) h1 (fun y j y' he hy => ?_)
      have hj := hb.1 y j he
      have hn : simD (.node (nd 11 (tk ts i) (tk ts i).1.x 0) [x, y]) (.node (nd 11 (tk us (i + k)) (tk us (i + k)).1.x 0) [x', y']) := ⟨⟨rfl, by show (tk ts i).1.x = (tk us (i + k)).1.x; rw [e0], rfl⟩, hx, hy, trivial⟩
      try dsimp only
      split
      · exact up_more hz ht hG hA m m' _ _ j hj.2 hn
      · exact Up.ok hn
    · rw [if_neg ho, if_neg ho]
      exact Up.ok hx
theorem up_betw {tb : List (List UInt8 × Nat)} (hz : tb.lookup [] = none) (ht : tb = relT ∨ tb = signT ∨ tb = sumT ∨ tb = mulT ∨ tb = notT) {again : Bool} {F F' G G' : Nat → Re} (hF : Bnd ts.length F) (hG : Bnd ts.length G) (aF : UpE ts.length k F F') (aG : UpE ts.length k G G') : UpE ts.length k (betwM ts tb again F G) (betwM us tb again F' G') := fun i hi => by
  have hb := hF i hi
  unfold betwM
  exact up_bind (K := fun x j => moreM ts tb again G (ts.length + 1) x j) (K' := fun x j => moreM us tb again G' (us.length + 1) x j) (aF i hi) (fun x j x' he hx => up_more A hz ht hG aG _ _ x x' j (hb.1 x j he).2 hx)
theorem up_ex {E E' : Nat → Re} (hE : Bnd ts.length E) (hM : Mono E) (hA : UpE ts.length k E E') : UpE ts.length k (exM ts E) (exM us E') := by
  have f := bd_ahead (ts := ts) (tb := notT) (again := true) rfl (bd_oper hE)
  have t : Bnd ts.length (termM ts E) := bd_betw (tb := mulT) (again := true) rfl f f
  have s : Bnd ts.length (simM ts E) := bd_betw (tb := sumT) (again := true) rfl (bd_ahead (tb := signT) (again := false) rfl t) t
  have af : UpE ts.length k (facM ts E) (facM us E') := up_ahead A (tb := notT) (again := true) rfl (by simp) (bd_oper hE) (up_oper A hE hM hA)
  have ax : UpE ts.length k (termM ts E) (termM us E') := up_betw A (tb := mulT) (again := true) rfl (by simp) f f af af
  have az : UpE ts.length k (simM ts E) (simM us E') := up_betw A (tb := sumT) (again := true) rfl (by simp) (bd_ahead (tb := signT) (again := false) rfl t) t (up_ahead A (tb := signT) (again := false) rfl (by simp) t ax) ax
  exact up_betw A rfl (by simp) s s az az
theorem up_expr : ∀ n n', UpE ts.length k (exprM ts n) (exprM us n')
  | 0, _ => fun _ _ => Up.out
  | _ + 1, 0 => fun _ _ => Up.none
  | n + 1, n' + 1 => up_ex A (bd_expr n) (mono_expr n) (up_expr n n')
end
end Go.Proofs.Ytnaihncmichfaaa
