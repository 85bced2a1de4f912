/- Package konst and its document: Does says what the document's Does says. -/
import Derived.Test.YtpnohljhpoildaaKnK2
namespace Go.Proofs.Ytpnohljhpoildaa
open Go.RowKit
set_option maxHeartbeats 4000000
set_option maxRecDepth 100000
set_option linter.unusedVariables false
set_option linter.unusedSimpArgs false

theorem does_is (o : List UInt8) (ho : opB o = true) (a b : PV) : doesP o a b = pickD (firstT (rowsP (tellP a) (tellP b)) o) (tellP a).n (tellP b).n := by
  unfold doesP; rw [if_pos (show opsL.contains o = true from ho)]; cases firstT (rowsP (tellP a) (tellP b)) o <;> rfl
theorem n7 {a : PV} (h : KF a 7) : (letD (lookP a)).n = 0 := by
  have hs := h.sx
  cases a with
  | null => rfl
  | none => cases hs
  | num n => cases hs
  | letter n => cases hs
  | truth b => cases hs
  | bits n => cases hs
  | item t n => cases hs
  | whole n =>
    cases hw : inW n
    · rw [show lookP (.whole n) = ⟨0, 0, nilS, 0⟩ from if_neg (by rw [hw]; simp)] at hs; cases hs
    · rw [show lookP (.whole n) = ⟨1, n, nilS, 0⟩ from if_pos hw] at hs; cases hs
  | str s =>
    by_cases h1 : s.size = 1
    · rw [show letD (lookP (.str s)) = ⟨2, let1 s, nilS, 0⟩ from if_pos ⟨rfl, h1⟩] at hs; cases hs
    · rw [show letD (lookP (.str s)) = ⟨5, 0, s, 0⟩ from if_neg (fun e => h1 e.2)] at hs; cases hs
theorem s_iff (a : PV) (k : Int) (hk : k = 1 ∨ k = 3) : (tellP a).s = k ↔ (lookP a).s = k := by
  cases a with
  | whole n => cases hw : inW n <;> simp [tellP, lookP, hw]
  | _ => simp [tellP, lookP]
theorem look_in (a : PV) (h : (lookP a).s = 1) : inW (lookP a).n = true := by
  cases a with
  | whole n =>
    cases hw : inW n
    · simp [lookP, hw] at h
    · simp [lookP, hw]
  | _ => simp [lookP] at h
theorem look_n (a : PV) (h : (tellP a).s = 1 ∨ (tellP a).s = 3) : (lookP a).n = (tellP a).n := by
  cases a with
  | whole n => cases hw : inW n <;> simp [tellP, lookP, hw]
  | str s => simp [tellP] at h
  | _ => simp [tellP, lookP]
theorem look_rec (a : PV) (h : (lookP a).s = 1) : lookP a = ⟨1, (lookP a).n, nilS, 0⟩ := by
  cases a with
  | whole n =>
    cases hw : inW n
    · simp [lookP, hw] at h
    · simp [lookP, hw]
  | _ => simp [lookP] at h
theorem docd_any (o : List UInt8) (a b : PV) (ha : a.wf) (hb : b.wf) (w : World) : Calls Try.prog 12 #[.string ⟨o.toArray⟩, (lookP a).val, (lookP b).val] w (AnsD (outP (doesP o a b)) w) := by
  cases ho : opB o
  case false =>
    rw [show doesP o a b = (.none, 103) from by unfold doesP; rw [if_neg (by rw [show opsL.contains o = false from ho]; simp)]]
    exact doc_noop o _ _ ho w
  have hd := does_is o ho a b
  rw [hd]
  obtain ⟨k, ka⟩ := kf a ha
  obtain ⟨l, kb⟩ := kf b hb
  have hk0 := ka.k0
  have hk8 := ka.k8
  by_cases hk : k = 0
  · have hr : rowsP (tellP a) (tellP b) = [] := by
      by_cases hl : k = l
      · subst hl
        rw [rows_like ka kb, hk]; rfl
      · rw [rows_diff ka kb hl, ka.nu, hk]; rfl
    rw [hr]
    exact doc_x0 o _ _ ho (by rw [beq_iff_eq]; exact ka.x0.2 hk) w
  have h1 : ((lookP a).s == 0) = false := by rw [beq_eq_false_iff_ne]; exact fun e => hk (ka.x0.1 e)
  by_cases hl : l = 0
  · have hr : rowsP (tellP a) (tellP b) = [] := by
      rw [rows_diff ka kb (by omega), kb.s4, hl]
      simp
    rw [hr]
    exact doc_y0 o _ _ ho h1 (by rw [beq_iff_eq]; exact kb.x0.2 hl) w
  have h2 : ((lookP b).s == 0) = false := by rw [beq_eq_false_iff_ne]; exact fun e => hl (kb.x0.1 e)
  by_cases hin : o = [73, 78]
  · subst hin
    have hh : hasD (lookP a) = (tellP a).num := by unfold hasD; rw [ka.sx, ka.nu]
    cases hn : (tellP a).num
    · rw [hn] at hh
      have hkn := ka.nu
      rw [hn] at hkn
      have hr : outP (pickD (firstT (rowsP (tellP a) (tellP b)) [73, 78]) (tellP a).n (tellP b).n) = (zV, 100) := by
        by_cases hkl : k = l
        · subst hkl
          rw [rows_like ka kb]
          have h3 : k = 4 ∨ k = 5 ∨ k = 7 := by
            have e1 : ¬ k = 1 := fun e => by rw [e] at hkn; simp at hkn
            have e2 : ¬ k = 2 := fun e => by rw [e] at hkn; simp at hkn
            have e3 : ¬ k = 3 := fun e => by rw [e] at hkn; simp at hkn
            have e6 : ¬ k = 6 := fun e => by rw [e] at hkn; simp at hkn
            omega
          rcases h3 with rfl | rfl | rfl <;> rfl
        · rw [rows_diff ka kb hkl, hn]; rfl
      rw [hr]
      exact doc_in_f _ _ ho h1 h2 hh w
    · rw [hn] at hh
      have hkn := ka.nu
      rw [hn] at hkn
      have hk4 : k ≠ 4 := fun e => by rw [e] at hkn; simp at hkn
      by_cases hl4 : l = 4
      · have hr : rowsP (tellP a) (tellP b) = [.tm] := by rw [rows_diff ka kb (by omega), hn, kb.s4, hl4]; rfl
        rw [hr]
        show Calls _ _ _ w (AnsD (outP (tru (inN (tellP a).n (tellP b).n))) w)
        rw [out_tru]
        have hnum : numD (lookP a) = (tellP a).n := by unfold numD; rw [if_pos hh, ka.nn]
        have hy4 : ((lookP b).s != 4) = false := by rw [bne_eq_false_iff_eq]; exact kb.x4.2 hl4
        have hyn := kb.n4 hl4
        have hw := kb.w4 hl4
        by_cases hneg : (tellP a).n < 0
        · rw [show inN (tellP a).n (tellP b).n = false from by unfold inN; rw [decide_eq_false (by omega)]; rfl]
          exact doc_in_neg _ _ ho h1 h2 hh hy4 (by rw [hnum]; exact hneg) w
        · by_cases hbig : 16 ≤ (tellP a).n
          · rw [show inN (tellP a).n (tellP b).n = false from by
              unfold inN
              rw [Nat.testBit_lt_two_pow (Nat.lt_of_lt_of_le (show (tellP b).n.toNat < 2 ^ 16 by have := hw.1; have := hw.2; omega) (Nat.pow_le_pow_right (by omega) (by omega)))]
              simp]
            exact doc_in_big _ _ ho h1 h2 hh hy4 (by rw [hnum]; exact hbig) w
          · rw [show inN (tellP a).n (tellP b).n = (lookP b).n.toNat.testBit (numD (lookP a)).toNat from by unfold inN; rw [decide_eq_true (by omega), hnum, hyn]; rfl]
            exact doc_in_i _ _ ho h1 h2 hh hy4 (by rw [hnum]; omega) (by rw [hyn]; exact hw) w
      · have hr : outP (pickD (firstT (rowsP (tellP a) (tellP b)) [73, 78]) (tellP a).n (tellP b).n) = (zV, 100) := by
          by_cases hkl : k = l
          · subst hkl
            rw [rows_like ka kb]
            have h3 : k = 1 ∨ k = 2 ∨ k = 3 ∨ k = 6 := by
              have e := hkn.symm
              simp only [Bool.or_eq_true, beq_iff_eq] at e
              omega
            rcases h3 with rfl | rfl | rfl | rfl
            · rfl
            · rfl
            · rfl
            · show outP (pickD (firstT (if (tellP a).t = (tellP b).t then [Tn.tq] else []) [73, 78]) _ _) = _
              split <;> rfl
          · rw [rows_diff ka kb hkl, kb.s4, show (l == 4) = false from beq_eq_false_iff_ne.2 hl4]
            simp; rfl
        rw [hr]
        exact doc_in_n _ _ ho h1 h2 hh (by rw [bne_iff_ne]; exact fun e => hl4 (kb.x4.1 e)) w
  have ei : (o == ([73, 78] : List UInt8)) = false := beq_eq_false_iff_ne.2 hin
  have na := ka.nn
  have nb := kb.nn
  by_cases hkl : k = l
  · subst hkl
    rw [rows_like ka kb, ← na, ← nb]
    have hk2 : k = 1 ∨ k = 2 ∨ k = 3 ∨ k = 4 ∨ k = 5 ∨ k = 6 ∨ k = 7 := by omega
    rcases hk2 with rfl | rfl | rfl | rfl | rfl | rfl | rfl
    · have wa := ka.w1 rfl
      have wb := kb.w1 rfl
      rw [← na] at wa
      rw [← nb] at wb
      rw [if_pos rfl]
      rcases pick_w o (letD (lookP a)).n (letD (lookP b)).n with ⟨h3, h4⟩ | ⟨h3, h4⟩
      · rw [h4]
        exact doc_1w o _ _ ho h1 h2 ei ka.sx kb.sx wa wb (by rw [bne_iff_ne]; exact h3) w
      · rw [h4]
        exact doc_1o o _ _ ho h1 h2 ei ka.sx kb.sx wa wb h3 w
    · show Calls _ _ _ w (AnsD (outP (pickD (firstT [.tq] o) _ _)) w)
      rw [pick_q]
      exact doc_2 o _ _ ho h1 h2 ei ka.sx kb.sx w
    · show Calls _ _ _ w (AnsD (outP (pickD (firstT [.tq, .tt] o) _ _)) w)
      by_cases hA : o = [65, 78, 68]
      · subst hA
        show Calls _ _ _ w (AnsD (outP (tru ((letD (lookP a)).n == 1 && (letD (lookP b)).n == 1))) w)
        rw [out_tru]
        cases hx : ((letD (lookP a)).n == 1) <;> cases hy : ((letD (lookP b)).n == 1)
        · exact doc_3and_ff _ _ ho h1 h2 ka.sx kb.sx hx hy w
        · exact doc_3and_ft _ _ ho h1 h2 ka.sx kb.sx hx hy w
        · exact doc_3and_tf _ _ ho h1 h2 ka.sx kb.sx hx hy w
        · exact doc_3and_tt _ _ ho h1 h2 ka.sx kb.sx hx hy w
      by_cases hO : o = [79, 82]
      · subst hO
        show Calls _ _ _ w (AnsD (outP (tru ((letD (lookP a)).n == 1 || (letD (lookP b)).n == 1))) w)
        rw [out_tru]
        cases hx : ((letD (lookP a)).n == 1) <;> cases hy : ((letD (lookP b)).n == 1)
        · exact doc_3or_ff _ _ ho h1 h2 ka.sx kb.sx hx hy w
        · exact doc_3or_ft _ _ ho h1 h2 ka.sx kb.sx hx hy w
        · exact doc_3or_tf _ _ ho h1 h2 ka.sx kb.sx hx hy w
        · exact doc_3or_tt _ _ ho h1 h2 ka.sx kb.sx hx hy w
      rw [pick_t o _ _ hA hO]
      exact doc_3e o _ _ ho h1 h2 ei (beq_eq_false_iff_ne.2 hA) (beq_eq_false_iff_ne.2 hO) ka.sx kb.sx w
    · have wa := ka.w4 rfl
      have wb := kb.w4 rfl
      rw [← na] at wa
      rw [← nb] at wb
      show Calls _ _ _ w (AnsD (outP (pickD (firstT [.ts, .te] o) _ _)) w)
      rw [pick_s]
      exact doc_4 o _ _ ho h1 h2 ei ka.sx kb.sx wa wb w
    · exact doc_5 o _ _ ho h1 h2 ei ka.sx kb.sx w
    · show Calls _ _ _ w (AnsD (outP (pickD (firstT (if (tellP a).t = (tellP b).t then [Tn.tq] else []) o) _ _)) w)
      by_cases ht : (tellP a).t = (tellP b).t
      · rw [if_pos ht, pick_q]
        exact doc_6 o _ _ ho h1 h2 ei ka.sx kb.sx (by rw [ka.tt, kb.tt]; exact ht) w
      · rw [if_neg ht]
        exact doc_it o _ _ ho h1 h2 ei (by rw [ka.sx, kb.sx]; rfl) (by rw [ka.sx]; rfl) (by rw [ka.tt, kb.tt, bne_iff_ne]; exact ht) w
    · show Calls _ _ _ w (AnsD (outP (pickD (firstT [.te] o) _ _)) w)
      by_cases hE : o = [61]
      · subst hE
        have e0 : (letD (lookP a)).n = 0 ∧ (letD (lookP b)).n = 0 := ⟨n7 ka, n7 kb⟩
        rw [e0.1, e0.2]
        exact doc_7eq _ _ ho h1 h2 ka.sx kb.sx w
      by_cases hN : o = [35]
      · subst hN
        have e0 : (letD (lookP a)).n = 0 ∧ (letD (lookP b)).n = 0 := ⟨n7 ka, n7 kb⟩
        rw [e0.1, e0.2]
        exact doc_7ne _ _ ho h1 h2 ka.sx kb.sx w
      rw [pick_e o _ _ hE hN]
      exact doc_7e o _ _ ho h1 h2 ei (beq_eq_false_iff_ne.2 hE) (beq_eq_false_iff_ne.2 hN) ka.sx kb.sx w
  · rw [rows_diff ka kb hkl, pick_m o _ _ hin]
    exact doc_ne o _ _ ho h1 h2 ei (by rw [ka.sx, kb.sx, bne_iff_ne]; exact hkl) w
theorem oned_is (o : List UInt8) (a : PV) (ha : a.wf) (w : World) : Calls Try.prog 14 #[.string ⟨o.toArray⟩, (lookP a).val] w (AnsD (outP (oneP o a)) w) := by
  obtain ⟨k, ka⟩ := kf a ha
  have hs1 : (tellP a).s = 1 ↔ (lookP a).s = 1 := s_iff a 1 (.inl rfl)
  have hs3 : (tellP a).s = 3 ↔ (lookP a).s = 3 := s_iff a 3 (.inr rfl)
  have hw : (lookP a).s = 1 → inW (lookP a).n = true := fun h => look_in a h
  have he : outP (oneP o a) = oneD o (lookP a) := by
    unfold oneP oneD
    split
    · by_cases h : (tellP a).s = 1
      · rw [if_pos h, if_pos (hs1.1 h), out_fit, ← look_n a (.inl h)]
        have hi := hw (hs1.1 h)
        unfold wholeD
        rw [if_pos hi, ← look_rec a (hs1.1 h)]
      · rw [if_neg h, if_neg (fun e => h (hs1.2 e))]; rfl
    split
    · by_cases h : (tellP a).s = 1
      · rw [if_pos h, if_pos (hs1.1 h), out_fit, ← look_n a (.inl h)]
      · rw [if_neg h, if_neg (fun e => h (hs1.2 e))]; rfl
    split
    · by_cases h : (tellP a).s = 3
      · rw [if_pos h, if_pos (hs3.1 h), out_tru, ← look_n a (.inr h)]
      · rw [if_neg h, if_neg (fun e => h (hs3.2 e))]; rfl
    · rfl
  rw [he]
  exact oned_any o (lookP a) hw w
end Go.Proofs.Ytpnohljhpoildaa
