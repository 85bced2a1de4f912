/- Law 6: parentheses, walked. -/
import Derived.Test.YtnaihncmichfaaaMeH
import Derived.Test.YtnaihncmichfaaaMpB
import Derived.Test.YtnaihncmichfaaaSaA
import Derived.LoopTactic
namespace Go.Proofs.Ytnaihncmichfaaa
open Go.RowKit
set_option maxHeartbeats 4000000
set_option maxRecDepth 100000
set_option linter.unusedVariables false
set_option linter.unusedSimpArgs false

theorem len_dtL : ∀ l : List Tr, (dtL l).length = l.length
  | [] => rfl
  | t :: r => by show (t.dt :: dtL r).length = _; rw [List.length_cons, List.length_cons, len_dtL r]
mutual
theorem simD_same : ∀ t u : Tr, simD t.dt u.dt → sameT t u = true
  | .node p d ks, .node q e ls, h => by
    obtain ⟨⟨h1, h2, h3⟩, h4⟩ := h
    have h5 := simL_same ks ls h4
    have h6 : ks.length = ls.length := by have := len_simL h4; rwa [len_dtL, len_dtL] at this
    unfold sameT alikeD
    simp [h1, h2, h3, h5, h6]
theorem simL_same : ∀ ks ls : List Tr, simL (dtL ks) (dtL ls) → sameTL ks ls = true
  | [], [], _ => rfl
  | t :: r, u :: s, h => by
    unfold sameTL
    rw [simD_same t u h.1, simL_same r s h.2]; rfl
  | [], _ :: _, h => h.elim
  | _ :: _, [], h => h.elim
end
theorem bytes_data (a b : ByteArray) : (a ++ b).data.toList = a.data.toList ++ b.data.toList := by simp [ByteArray.data_append]
theorem bytes_size (a : ByteArray) : a.size = a.data.toList.length := by rw [Array.length_toList]; rfl
theorem parens_big (s : ByteArray) (a1 : Int) (h : 2048 < s.size) (w : World) :
    Calls Try.prog 7 #[.string s, .int .u8 a1] w fun e w' => e = .returned (.bool true) ∧ Below w.heap.size w w' := by
  have H1 := rheavy_any s w
  rw [decide_eq_true (by omega)] at H1
  have HW := Lib.hid (rworks_any w)
  go_enter Try.func7, Try.ntmps7
  go_wp2_with fail
  refine H1.mono ?_
  rintro e w1 ⟨rfl, rfl⟩
  go_wp2_with fail
  refine HW.out.mono ?_
  rintro e w2 ⟨rfl, hb⟩
  go_wp2_with fail
  go_ret
  exact ⟨rfl, hb⟩
theorem parens_not (s : ByteArray) (a1 : Int) (hs : ¬ 2048 < s.size) (hno : ¬ ∃ d, exprM (rowT s.data.toList) ((rowT s.data.toList).length + 2) 0 = .ok d (rowT s.data.toList).length) (w : World) :
    Calls Try.prog 7 #[.string s, .int .u8 a1] w fun e w' => e = .returned (.bool true) ∧ Below w.heap.size w w' := by
  have H1 := rheavy_any s w
  rw [decide_eq_false (by omega)] at H1
  have H2 := Row_any s (by omega) w
  obtain ⟨hl, hx⟩ := row_at s (by omega)
  obtain ⟨ts, hts⟩ : ∃ ts, rowT s.data.toList = ts := ⟨_, rfl⟩
  rw [hts] at hl hx H2 hno
  have HW := Lib.hid rworks_any
  have HX := Lib.hid hx
  have HF := Lib.hid (fin_of (k := 0) (ts := ts))
  have HNO := Lib.hid hno
  clear hts hx hno
  go_enter Try.func7, Try.ntmps7
  go_wp2_with fail
  refine H1.mono ?_
  rintro e w1 ⟨rfl, rfl⟩
  clear H1
  go_wp2_with fail
  refine H2.mono ?_
  rintro e w2 ⟨v, rfl, B2, hR⟩
  clear H2
  have H3 := Lib.hid (Expr_any ts v 0 w2 hR.1 (by omega) hl HX.out)
  obtain ⟨q, cap, rfl, hc1, hc2⟩ := hR.2
  clear hR
  go_wp2_with fail
  refine H3.out.mono ?_
  rintro e w3 h3
  obtain ⟨pv, ev, rfl, B3, hev⟩ := h3.flat
  rcases HF.out with ⟨d, n, hr, hn⟩ | ⟨n, hr, hn⟩
  · have hr' : exprM ts (ts.length + 2) 0 = .ok d n := hr
    rw [hr'] at hev ⊢
    obtain rfl : ev = 0 := by
      rcases hev with ⟨_, _, _, h⟩ | ⟨_, h, _⟩
      · exact h
      · cases h
    simp only [Re.pl]
    have hne : n ≠ ts.length := fun e => HNO.out ⟨d, by rw [hr', e]⟩
    have t1 : ((n : Int) == (ts.length : Int)) = false := beq_eq_false_iff_ne.2 (by omega)
    have t2 : ((n : Int) != (ts.length : Int)) = true := by rw [bne, t1]; rfl
    have B13 := Lib.hid (bt B2 B3)
    clear H3 h3 hev hr hr' hne B3
    go_wp2_with fail
    refine (HW.out _).mono ?_
    rintro e w4 ⟨rfl, B4⟩
    go_wp2_with fail
    go_ret
    exact ⟨rfl, bt B13.out B4⟩
  · have hr' : exprM ts (ts.length + 2) 0 = .bad n := hr
    rw [hr'] at hev ⊢
    obtain rfl : ev = 60 := by
      rcases hev with ⟨_, _, h, _⟩ | ⟨_, _, h⟩
      · cases h
      · exact h
    simp only [Re.pl]
    have B13 := Lib.hid (bt B2 B3)
    clear H3 h3 hev hr hr' B3
    go_wp2_with fail
    refine (HW.out _).mono ?_
    rintro e w4 ⟨rfl, B4⟩
    go_wp2_with fail
    go_ret
    exact ⟨rfl, bt B13.out B4⟩
end Go.Proofs.Ytnaihncmichfaaa
