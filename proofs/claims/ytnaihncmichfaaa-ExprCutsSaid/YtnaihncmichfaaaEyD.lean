/- Law 6: rows that are cut: sources that are played. -/
import Derived.Test.YtnaihncmichfaaaEyC
namespace Go.Proofs.Ytnaihncmichfaaa
open Go.RowKit
set_option maxHeartbeats 2000000
set_option maxRecDepth 100000
set_option linter.unusedVariables false
set_option linter.unusedSimpArgs false

theorem RowC.cutv {w : World} {B : Nat} {q : Option Addr} {L cap : Nat} {ts : List TK} (h : RowC w B (.slice q L cap) ts) (n : Nat) (hn : n ≤ ts.length) : RowAt w B (.slice q n cap) (ts.take n) := by
  obtain ⟨q', cap', e1, _, _, h4⟩ := h.cut n hn
  injection e1 with e2 e3 e4
  subst e2 e4
  exact h4
theorem cuts_ok (s : ByteArray) (a1 a2 : Int) (l1 : 0 ≤ a1) (u1 : a1 ≤ 255) (l2 : 0 ≤ a2) (u2 : a2 ≤ 65535) (hs : ¬ 2048 < s.size) (w : World) :
    Calls Try.prog 5 #[.string s, .int .u8 a1, .int .u16 a2] w fun e w' => e = .returned (.bool true) ∧ Below w.heap.size w w' := by
  have H1 := rheavy_any s w
  rw [decide_eq_false (by omega)] at H1
  have H2 := Row_any s (by omega) w
  obtain ⟨hl, hx⟩ := row_at s (by omega)
  obtain ⟨ts, hts⟩ : ∃ ts, rowT s.data.toList = ts := ⟨_, rfl⟩
  rw [hts] at hl hx H2
  obtain ⟨k, hk, hk4⟩ : ∃ k : Nat, a1 % 4 = (k : Int) ∧ k < 4 := ⟨(a1 % 4).toNat, by omega, by omega⟩
  have HW := Lib.hid rworks_any
  have HX := Lib.hid hx
  clear hts hx
  go_enter Try.func5, Try.ntmps5
  go_wp2_with fail
  refine H1.mono ?_
  rintro e w1 ⟨rfl, rfl⟩
  clear H1
  go_wp2_with fail
  refine H2.mono ?_
  rintro e w2 ⟨v, rfl, B2, hR⟩
  clear H2
  have H3 := does_any ts v 0 k w2 hR.1 hk4 (Nat.zero_le _) hl HX.out
  obtain ⟨q, cap, rfl, hc1, hc2⟩ := hR.2
  have HF := Lib.hid (fin_of (k := k) (ts := ts))
  go_wp2_with fail
  refine H3.mono ?_
  rintro e w3 h3
  obtain ⟨pv, ev, rfl, B3, hev⟩ := h3.flat
  rcases HF.out with ⟨d, n, hr, hn⟩ | ⟨n, hr, hn⟩
  · rw [hr] at hev ⊢
    obtain rfl : ev = 0 := by
      rcases hev with ⟨_, _, _, h⟩ | ⟨_, h, _⟩
      · exact h
      · cases h
    simp only [Re.pl]
    clear H3 h3 hev
    have hR3 := Lib.hid (hR.bel B3)
    have t1 : ¬ (n : Int) < 0 := by omega
    have t2 : ¬ (ts.length : Int) < (n : Int) := by omega
    have hrH := Lib.hid (show (doM k ts 0).pl = n by rw [hr]; rfl)
    have B13 := Lib.hid (bt B2 B3)
    clear hr hR
    obtain ⟨m, hm, hmn⟩ : ∃ m : Nat, a2 % ((n : Int) + 1) = (m : Int) ∧ m ≤ n := by
      have h1 := Int.emod_nonneg a2 (show (n : Int) + 1 ≠ 0 by omega)
      have h2 := Int.emod_lt_of_pos a2 (show (0 : Int) < (n : Int) + 1 by omega)
      exact ⟨(a2 % ((n : Int) + 1)).toNat, by omega, by omega⟩
    have m0 : (0 : Int) ≤ (m : Int) := by omega
    have m1 : (m : Int) ≤ (cap : Int) := by omega
    have HM : Hid (m ≤ n) := Lib.hid hmn
    have C3 := Lib.hid (does_any (ts.take m) (.slice q m cap) 0 k w3 (hR3.out.cutv m (by omega)) hk4 (Nat.zero_le _) (by rw [List.length_take]; omega) (fun x hx => HX.out x (List.mem_of_mem_take hx)))
    go_wp2_with fail
    refine C3.out.mono ?_
    rintro e w4 h4
    have HQ := cut_any k ts m (by rw [hrH.out]; exact HM.out)
    rcases HQ with ⟨d', m', h5, h6⟩ | h5
    · obtain ⟨pv', ev, rfl, B4, hev⟩ := h4.flat
      rw [h5] at hev ⊢
      obtain rfl : ev = 0 := by
        rcases hev with ⟨_, _, _, h⟩ | ⟨_, h, _⟩
        · exact h
        · cases h
      simp only [Re.pl]
      have t3 : (m' : Int) ≤ (m : Int) := by omega
      have HB := Lib.hid (bt B13.out B4)
      clear h4 h5 hev C3 h6 HM B4
      go_wp2_with fail
      refine (HW.out _).mono ?_
      rintro e w5 ⟨rfl, B5⟩
      go_wp2_with fail
      go_ret
      exact ⟨rfl, bt HB.out B5⟩
    · obtain ⟨rfl, B4⟩ := h4.err h5
      have HB := Lib.hid (bt B13.out B4)
      clear h4 h5 C3 HM B4
      go_wp2_with fail
      refine (HW.out _).mono ?_
      rintro e w5 ⟨rfl, B5⟩
      go_wp2_with fail
      go_ret
      exact ⟨rfl, bt HB.out B5⟩
  · rw [hr] at hev ⊢
    obtain rfl : ev = 60 := by
      rcases hev with ⟨_, _, h, _⟩ | ⟨_, _, h⟩
      · cases h
      · exact h
    simp only [Re.pl]
    clear H3 h3 hev
    have hR3 := Lib.hid (hR.bel B3)
    have t1 : ¬ (n : Int) < 0 := by omega
    have t2 : ¬ (ts.length : Int) < (n : Int) := by omega
    have hrH := Lib.hid (show (doM k ts 0).pl = n by rw [hr]; rfl)
    have hrB := Lib.hid hr
    have B13 := Lib.hid (bt B2 B3)
    clear hr hR
    by_cases hnl : n < ts.length
    · have t4 : (n : Int) < (ts.length : Int) := by omega
      have n1 : (n : Int) + 1 ≤ (cap : Int) := by omega
      have n2 : (0 : Int) ≤ (n : Int) + 1 := by omega
      have C4 := Lib.hid (does_any (ts.take (n + 1)) (.slice q (n + 1) cap) 0 k w3 (hR3.out.cutv (n + 1) (by omega)) hk4 (Nat.zero_le _) (by rw [List.length_take]; omega) (fun x hx => HX.out x (List.mem_of_mem_take hx)))
      go_wp2_with fail
      refine C4.out.mono ?_
      rintro e w4 h4
      obtain ⟨rfl, B4⟩ := h4.err (cut_err k ts n hrB.out)
      have hR4 := Lib.hid (hR3.out.bel B4)
      have B14 := Lib.hid (bt B13.out B4)
      clear h4 B4 C4
      obtain ⟨m, hm, hmn⟩ : ∃ m : Nat, a2 % ((n : Int) + 1) = (m : Int) ∧ m ≤ n := by
        have h1 := Int.emod_nonneg a2 (show (n : Int) + 1 ≠ 0 by omega)
        have h2 := Int.emod_lt_of_pos a2 (show (0 : Int) < (n : Int) + 1 by omega)
        exact ⟨(a2 % ((n : Int) + 1)).toNat, by omega, by omega⟩
      have m0 : (0 : Int) ≤ (m : Int) := by omega
      have m1 : (m : Int) ≤ (cap : Int) := by omega
      have HM : Hid (m ≤ n) := Lib.hid hmn
      have C3 := Lib.hid (does_any (ts.take m) (.slice q m cap) 0 k w4 (hR4.out.cutv m (by omega)) hk4 (Nat.zero_le _) (by rw [List.length_take]; omega) (fun x hx => HX.out x (List.mem_of_mem_take hx)))
      go_wp2_with fail
      refine C3.out.mono ?_
      rintro e w5 h4
      have HQ := cut_any k ts m (by rw [hrH.out]; exact HM.out)
      rcases HQ with ⟨d', m', h5, h6⟩ | h5
      · obtain ⟨pv', ev, rfl, B4, hev⟩ := h4.flat
        rw [h5] at hev ⊢
        obtain rfl : ev = 0 := by
          rcases hev with ⟨_, _, _, h⟩ | ⟨_, h, _⟩
          · exact h
          · cases h
        simp only [Re.pl]
        have t3 : (m' : Int) ≤ (m : Int) := by omega
        have HB := Lib.hid (bt B14.out B4)
        clear h4 h5 hev C3 h6 HM B4
        go_wp2_with fail
        refine (HW.out _).mono ?_
        rintro e w6 ⟨rfl, B5⟩
        go_wp2_with fail
        go_ret
        exact ⟨rfl, bt HB.out B5⟩
      · obtain ⟨rfl, B4⟩ := h4.err h5
        have HB := Lib.hid (bt B14.out B4)
        clear h4 h5 C3 HM B4
        go_wp2_with fail
        refine (HW.out _).mono ?_
        rintro e w6 ⟨rfl, B5⟩
        go_wp2_with fail
        go_ret
        exact ⟨rfl, bt HB.out B5⟩
    · have t4 : ¬ (n : Int) < (ts.length : Int) := by omega
      obtain ⟨m, hm, hmn⟩ : ∃ m : Nat, a2 % ((n : Int) + 1) = (m : Int) ∧ m ≤ n := by
        have h1 := Int.emod_nonneg a2 (show (n : Int) + 1 ≠ 0 by omega)
        have h2 := Int.emod_lt_of_pos a2 (show (0 : Int) < (n : Int) + 1 by omega)
        exact ⟨(a2 % ((n : Int) + 1)).toNat, by omega, by omega⟩
      have m0 : (0 : Int) ≤ (m : Int) := by omega
      have m1 : (m : Int) ≤ (cap : Int) := by omega
      have HM : Hid (m ≤ n) := Lib.hid hmn
      have C3 := Lib.hid (does_any (ts.take m) (.slice q m cap) 0 k w3 (hR3.out.cutv m (by omega)) hk4 (Nat.zero_le _) (by rw [List.length_take]; omega) (fun x hx => HX.out x (List.mem_of_mem_take hx)))
      go_wp2_with fail
      refine C3.out.mono ?_
      rintro e w4 h4
      have HQ := cut_any k ts m (by rw [hrH.out]; exact HM.out)
      rcases HQ with ⟨d', m', h5, h6⟩ | h5
      · obtain ⟨pv', ev, rfl, B4, hev⟩ := h4.flat
        rw [h5] at hev ⊢
        obtain rfl : ev = 0 := by
          rcases hev with ⟨_, _, _, h⟩ | ⟨_, h, _⟩
          · exact h
          · cases h
        simp only [Re.pl]
        have t3 : (m' : Int) ≤ (m : Int) := by omega
        have HB := Lib.hid (bt B13.out B4)
        clear h4 h5 hev C3 h6 HM B4
        go_wp2_with fail
        refine (HW.out _).mono ?_
        rintro e w5 ⟨rfl, B5⟩
        go_wp2_with fail
        go_ret
        exact ⟨rfl, bt HB.out B5⟩
      · obtain ⟨rfl, B4⟩ := h4.err h5
        have HB := Lib.hid (bt B13.out B4)
        clear h4 h5 C3 HM B4
        go_wp2_with fail
        refine (HW.out _).mono ?_
        rintro e w5 ⟨rfl, B5⟩
        go_wp2_with fail
        go_ret
        exact ⟨rfl, bt HB.out B5⟩
theorem rcuts_any (s : ByteArray) (a1 a2 : Int) (l1 : 0 ≤ a1) (u1 : a1 ≤ 255) (l2 : 0 ≤ a2) (u2 : a2 ≤ 65535) (w : World) :
    Calls Try.prog 5 #[.string s, .int .u8 a1, .int .u16 a2] w fun e w' => e = .returned (.bool true) ∧ Below w.heap.size w w' := by
  by_cases h : 2048 < s.size
  · exact cuts_big s a1 a2 h w
  · exact cuts_ok s a1 a2 l1 u1 l2 u2 h w
end Go.Proofs.Ytnaihncmichfaaa
