/- Package konst and its document: that they say the same (pure). -/
import Derived.Test.YtpnohljhpoildaaKnI
import Derived.Test.YtpnohljhpoildaaKnZB
import Derived.Test.YtpnohljhpoildaaKnZC
import Derived.Test.YtpnohljhpoildaaKnZD
import Derived.Test.YtpnohljhpoildaaKnZE
namespace Go.Proofs.Ytpnohljhpoildaa
open Go.RowKit
set_option maxHeartbeats 4000000
set_option maxRecDepth 100000
set_option linter.unusedVariables false
set_option linter.unusedSimpArgs false

/-- What a value is, for the program and for the document. -/
structure KF (a : PV) (k : Int) : Prop where
  k0 : 0 ≤ k
  k8 : k < 8
  sx : (letD (lookP a)).s = k
  x0 : (lookP a).s = 0 ↔ k = 0
  x4 : (lookP a).s = 4 ↔ k = 4
  nu : (tellP a).num = (k == 1 || k == 2 || k == 3 || k == 6)
  le : (tellP a).let = (k == 2)
  Xs : (tellP a).s = k ∨ (k = 2 ∧ (tellP a).s = 5)
  nn : (letD (lookP a)).n = (tellP a).n
  n4 : k = 4 → (lookP a).n = (tellP a).n
  tt : (letD (lookP a)).t = (tellP a).t
  t0 : k ≠ 6 → (tellP a).t = 0
  w1 : k = 1 → inW (tellP a).n = true
  w4 : k = 4 → w16 (tellP a).n
theorem kf (a : PV) (ha : a.wf) : ∃ k, KF a k := by
  cases a with
  | none => exact ⟨0, by constructor <;> simp [lookP, tellP, letD, TV.num, TV.let]⟩
  | num n => exact ⟨0, by constructor <;> simp [lookP, tellP, letD, TV.num, TV.let]⟩
  | null => exact ⟨7, by constructor <;> simp [lookP, tellP, letD, TV.num, TV.let]⟩
  | letter n => exact ⟨2, by constructor <;> simp [lookP, tellP, letD, TV.num, TV.let]⟩
  | truth b => exact ⟨3, by constructor <;> simp [lookP, tellP, letD, TV.num, TV.let]⟩
  | bits n =>
    have hw : w16 n := ha
    exact ⟨4, by constructor <;> simp [lookP, tellP, letD, TV.num, TV.let, hw]⟩
  | item t n => exact ⟨6, by constructor <;> simp [lookP, tellP, letD, TV.num, TV.let]⟩
  | whole n =>
    cases hw : inW n
    · exact ⟨0, by constructor <;> simp [lookP, tellP, letD, TV.num, TV.let, hw]⟩
    · exact ⟨1, by constructor <;> simp [lookP, tellP, letD, TV.num, TV.let, hw]⟩
  | str s =>
    by_cases h : s.size = 1
    · have hz : ((s.size : Int) == 1) = true := by rw [beq_iff_eq]; omega
      exact ⟨2, by constructor <;> simp [lookP, tellP, letD, TV.num, TV.let, h, let1]⟩
    · have hz : ((s.size : Int) == 1) = false := by rw [beq_eq_false_iff_ne]; omega
      have h2 : ¬ (s.size : Int) = 1 := by omega
      exact ⟨5, by constructor <;> simp [lookP, tellP, letD, TV.num, TV.let, h, h2, let1]⟩
theorem KF.both {a b : PV} {k l : Int} (ha : KF a k) (hb : KF b l) (j : Int) (hj : j = 1 ∨ j = 3 ∨ j = 4 ∨ j = 7) : bothP (tellP a) (tellP b) j = (k == j && l == j) := by
  unfold bothP
  have h1 : ((tellP a).s == j) = (k == j) := by
    rcases ha.Xs with h | ⟨h, h2⟩
    · rw [h]
    · rw [h, h2]; rcases hj with rfl | rfl | rfl | rfl <;> rfl
  have h2 : ((tellP b).s == j) = (l == j) := by
    rcases hb.Xs with h | ⟨h, h2⟩
    · rw [h]
    · rw [h, h2]; rcases hj with rfl | rfl | rfl | rfl <;> rfl
  rw [h1, h2]
theorem KF.s4 {b : PV} {l : Int} (hb : KF b l) : ((tellP b).s == 4) = (l == 4) := by
  rcases hb.Xs with h | ⟨h, h2⟩
  · rw [h]
  · rw [h, h2]; rfl
/-- Unlike kinds. -/
theorem rows_diff {a b : PV} {k l : Int} (ha : KF a k) (hb : KF b l) (h : k ≠ l) : rowsP (tellP a) (tellP b) = if ((tellP a).num && (tellP b).s == 4) = true then [Tn.tm] else [] := by
  have ho : ordP (tellP a) (tellP b) = false := by
    cases hq : ordP (tellP a) (tellP b)
    · rfl
    · exfalso
      unfold ordP at hq
      rw [ha.le, hb.le, ha.nu, hb.nu] at hq
      simp only [Bool.or_eq_true, Bool.and_eq_true, beq_iff_eq] at hq
      have h1 := ha.Xs
      have h2 := hb.Xs
      omega
  have hb4 : ∀ j, (j = 1 ∨ j = 3 ∨ j = 4 ∨ j = 7) → bothP (tellP a) (tellP b) j = false := fun j hj => by
    rw [ha.both hb j hj]
    cases hq : (k == j && l == j)
    · rfl
    · simp only [Bool.and_eq_true, beq_iff_eq] at hq; omega
  unfold rowsP
  rw [if_neg (by rw [ho]; simp), hb4 1 (by omega), hb4 3 (by omega), hb4 4 (by omega), hb4 7 (by omega)]
  rfl
theorem rows_like {a b : PV} {k : Int} (ha : KF a k) (hb : KF b k) : rowsP (tellP a) (tellP b) =
    if k = 1 then [.tq, .tw] else if k = 2 then [.tq] else if k = 3 then [.tq, .tt] else if k = 4 then [.ts, .te] else if k = 6 then (if (tellP a).t = (tellP b).t then [.tq] else []) else if k = 7 then [.te] else [] := by
  have h1 := ha.both hb 1 (by omega)
  have h3 := ha.both hb 3 (by omega)
  have h4 := ha.both hb 4 (by omega)
  have h7 := ha.both hb 7 (by omega)
  have hs := hb.s4
  have hn := ha.nu
  have ho : ordP (tellP a) (tellP b) = ((k == 2 && k == 2) || ((tellP a).num && (tellP b).num && (tellP a).s == (tellP b).s && (tellP a).t == (tellP b).t)) := by
    unfold ordP; rw [ha.le, hb.le]
  rw [hn, hb.nu] at ho
  have hta := ha.t0
  have htb := hb.t0
  have hXa := ha.Xs
  have hXb := hb.Xs
  have hk0 := ha.k0
  have hk8 := ha.k8
  unfold rowsP
  rw [h1, h3, h4, h7, hs, hn, ho]
  have hk : k = 0 ∨ k = 1 ∨ k = 2 ∨ k = 3 ∨ k = 4 ∨ k = 5 ∨ k = 6 ∨ k = 7 := by omega
  rcases hk with rfl | rfl | rfl | rfl | rfl | rfl | rfl | rfl
  · simp
  · rw [show (tellP a).s = 1 by omega, show (tellP b).s = 1 by omega, hta (by omega), htb (by omega)]; simp
  · simp
  · rw [show (tellP a).s = 3 by omega, show (tellP b).s = 3 by omega, hta (by omega), htb (by omega)]; simp
  · simp
  · simp
  · rw [show (tellP a).s = 6 by omega, show (tellP b).s = 6 by omega]
    by_cases ht : (tellP a).t = (tellP b).t
    · simp [ht]
    · simp [ht]
  · simp
def outP (p : PV × Int) : LV × Int := (lookP p.1, p.2)
theorem out_fit (n : Int) : outP (fitP n) = wholeD n := by
  unfold fitP wholeD
  cases h : inW n
  · rfl
  · show (lookP (.whole n), (0 : Int)) = _
    rw [show lookP (.whole n) = ⟨1, n, nilS, 0⟩ from if_pos h]; rfl
theorem out_tru (c : Bool) : outP (tru c) = (truD c, 0) := rfl
theorem out_ovr (f : Int → Int → Int) (x y : Int) : outP (ovr f x y) = if y = 0 then (zV, 102) else wholeD (f x y) := by
  unfold ovr
  split
  · rfl
  · exact out_fit _
theorem pick_q (o : List UInt8) (x y : Int) : outP (pickD (firstT [.tq] o) x y) = ordersD o x y := by
  by_cases h0 : o = [61]
  · subst h0; rfl
  by_cases h1 : o = [35]
  · subst h1; rfl
  by_cases h2 : o = [60]
  · subst h2; rfl
  by_cases h3 : o = [60, 61]
  · subst h3; rfl
  by_cases h4 : o = [62]
  · subst h4; rfl
  by_cases h5 : o = [62, 61]
  · subst h5; rfl
  · have e : firstT [.tq] o = none := by
      show (match (tab .tq).lookup o with | some g => some g | none => firstT [] o) = _
      rw [show (tab .tq).lookup o = none from by simp [tab, List.lookup, beq_eq_false_iff_ne.2 h0, beq_eq_false_iff_ne.2 h1, beq_eq_false_iff_ne.2 h2, beq_eq_false_iff_ne.2 h3, beq_eq_false_iff_ne.2 h4, beq_eq_false_iff_ne.2 h5]]
      rfl
    rw [e]
    unfold ordersD
    rw [if_neg h0, if_neg h1, if_neg h2, if_neg h3, if_neg h4, if_neg h5]; rfl
theorem pick_s (o : List UInt8) (x y : Int) : outP (pickD (firstT [.ts, .te] o) x y) = setsD o x y := by
  by_cases h0 : o = [43]
  · subst h0; rfl
  by_cases h1 : o = [45]
  · subst h1; rfl
  by_cases h2 : o = [42]
  · subst h2; rfl
  by_cases h3 : o = [47]
  · subst h3; rfl
  by_cases h4 : o = [60, 61]
  · subst h4; rfl
  by_cases h5 : o = [62, 61]
  · subst h5; rfl
  by_cases h6 : o = [61]
  · subst h6; rfl
  by_cases h7 : o = [35]
  · subst h7; rfl
  · have e : firstT [.ts, .te] o = none := by
      show (match (tab .ts).lookup o with | some g => some g | none => (match (tab .te).lookup o with | some g => some g | none => firstT [] o)) = _
      rw [show (tab .ts).lookup o = none from by simp [tab, List.lookup, beq_eq_false_iff_ne.2 h0, beq_eq_false_iff_ne.2 h1, beq_eq_false_iff_ne.2 h2, beq_eq_false_iff_ne.2 h3, beq_eq_false_iff_ne.2 h4, beq_eq_false_iff_ne.2 h5], show (tab .te).lookup o = none from by simp [tab, List.lookup, beq_eq_false_iff_ne.2 h6, beq_eq_false_iff_ne.2 h7]]
      rfl
    rw [e]
    unfold setsD
    rw [if_neg h0, if_neg h1, if_neg h2, if_neg h3, if_neg h4, if_neg h5, if_neg h6, if_neg h7]; rfl
theorem first_two (t u : Tn) (o : List UInt8) : firstT [t, u] o = match (tab t).lookup o with | some g => some g | none => firstT [u] o := rfl
theorem look_w (o : List UInt8) (h0 : o ≠ [43]) (h1 : o ≠ [45]) (h2 : o ≠ [42]) (h3 : o ≠ [68, 73, 86]) (h4 : o ≠ [77, 79, 68]) : (tab .tw).lookup o = none := by
  simp [tab, List.lookup, beq_eq_false_iff_ne.2 h0, beq_eq_false_iff_ne.2 h1, beq_eq_false_iff_ne.2 h2, beq_eq_false_iff_ne.2 h3, beq_eq_false_iff_ne.2 h4]
theorem wholeD_ne (n : Int) : (wholeD n).2 ≠ 100 := by
  unfold wholeD
  split
  · show (0 : Int) ≠ 100; decide
  · show (101 : Int) ≠ 100; decide
/-- Whole numbers: by what may be reckoned first, or by questions. -/
theorem pick_w (o : List UInt8) (x y : Int) : ((wholesD o x y).2 ≠ 100 ∧ outP (pickD (firstT [.tq, .tw] o) x y) = wholesD o x y) ∨ (wholesD o x y = (zV, 100) ∧ outP (pickD (firstT [.tq, .tw] o) x y) = ordersD o x y) := by
  by_cases h0 : o = [43]
  · subst h0; exact .inl ⟨wholeD_ne _, out_fit _⟩
  by_cases h1 : o = [45]
  · subst h1; exact .inl ⟨wholeD_ne _, out_fit _⟩
  by_cases h2 : o = [42]
  · subst h2; exact .inl ⟨wholeD_ne _, out_fit _⟩
  by_cases h3 : o = [68, 73, 86]
  · subst h3
    refine .inl ⟨?_, out_ovr _ _ _⟩
    show (if y = 0 then (zV, (102 : Int)) else wholeD (x.tdiv y)).2 ≠ 100
    split
    · decide
    · exact wholeD_ne _
  by_cases h4 : o = [77, 79, 68]
  · subst h4
    refine .inl ⟨?_, out_ovr _ _ _⟩
    show (if y = 0 then (zV, (102 : Int)) else wholeD (x.tmod y)).2 ≠ 100
    split
    · decide
    · exact wholeD_ne _
  · refine .inr ⟨by unfold wholesD; rw [if_neg h0, if_neg h1, if_neg h2, if_neg h3, if_neg h4], ?_⟩
    have e : firstT [.tq, .tw] o = firstT [.tq] o := by
      rw [first_two]
      show _ = match (tab .tq).lookup o with | some g => some g | none => firstT [] o
      cases (tab .tq).lookup o with
      | some g => rfl
      | none =>
        show (match (tab .tw).lookup o with | some g => some g | none => firstT [] o) = firstT [] o
        rw [look_w o h0 h1 h2 h3 h4]
    rw [e]
    exact pick_q o x y
theorem pick_t (o : List UInt8) (x y : Int) (h0 : o ≠ [65, 78, 68]) (h1 : o ≠ [79, 82]) : outP (pickD (firstT [.tq, .tt] o) x y) = ordersD o x y := by
  have e : firstT [.tq, .tt] o = firstT [.tq] o := by
    rw [first_two]
    show _ = match (tab .tq).lookup o with | some g => some g | none => firstT [] o
    cases (tab .tq).lookup o with
    | some g => rfl
    | none =>
      show (match (tab .tt).lookup o with | some g => some g | none => firstT [] o) = firstT [] o
      rw [show (tab .tt).lookup o = none from by simp [tab, List.lookup, beq_eq_false_iff_ne.2 h0, beq_eq_false_iff_ne.2 h1]]
  rw [e]
  exact pick_q o x y
theorem pick_e (o : List UInt8) (x y : Int) (h0 : o ≠ [61]) (h1 : o ≠ [35]) : outP (pickD (firstT [.te] o) x y) = (zV, 100) := by
  have e : firstT [.te] o = none := by
    show (match (tab .te).lookup o with | some g => some g | none => firstT [] o) = _
    rw [show (tab .te).lookup o = none from by simp [tab, List.lookup, beq_eq_false_iff_ne.2 h0, beq_eq_false_iff_ne.2 h1]]; rfl
  rw [e]; rfl
theorem pick_m (o : List UInt8) (x y : Int) (h0 : o ≠ [73, 78]) (c : Bool) : outP (pickD (firstT (if c = true then [Tn.tm] else []) o) x y) = (zV, 100) := by
  cases c
  · rfl
  · have e : firstT [Tn.tm] o = none := by
      show (match (tab .tm).lookup o with | some g => some g | none => firstT [] o) = _
      rw [show (tab .tm).lookup o = none from by simp [tab, List.lookup, beq_eq_false_iff_ne.2 h0]]; rfl
    show outP (pickD (firstT [Tn.tm] o) x y) = _
    rw [e]; rfl
end Go.Proofs.Ytpnohljhpoildaa
