/- The document's own answers for layer 1, walked: Int, Of, Takes, Within, so, asks, fits, quotient, numbers. -/
import Derived.Test.YtgghdllbegkioaaDoorWdN
namespace Go.Proofs.YtgghdllbegkioaaDoor
open Go.RowKit
set_option maxHeartbeats 1000000
set_option linter.unusedVariables false

theorem refInt_any (a : Int) (h0 : 0 ≤ a) (h1 : a ≤ 65535) (w : World) :
    Calls Tryd.prog 17 #[.int .u16 a] w fun e w' => e = .returned (.int .i64 (sg a)) ∧ w = w' := by
  by_cases h : a < 32768
  · have HS := Lib.hid (sg_lo h)
    go_enter Tryd.func17, Tryd.ntmps17
    go_wp2_with fail
    go_ret
    exact ⟨by rw [HS.out]; rfl, rfl⟩
  · have HS := Lib.hid (sg_hi (show 32768 ≤ a by omega))
    go_enter Tryd.func17, Tryd.ntmps17
    go_wp2_with fail
    go_ret
    exact ⟨by rw [HS.out]; rfl, rfl⟩

theorem refOf_any (n : Int) (h0 : -9223372036854775808 ≤ n) (h1 : n ≤ 9223372036854775807) (w : World) :
    Calls Tryd.prog 15 #[.int .i64 n] w fun e w' => e = .returned (.tuple #[.int .u16 (ofN n).1, .bool (ofN n).2]) ∧ w = w' := by
  have h : n < -32768 ∨ 65535 < n ∨ (-32768 ≤ n ∧ n < 0) ∨ (0 ≤ n ∧ n ≤ 65535) := by omega
  rcases h with h | h | ⟨g0, g1⟩ | ⟨g0, g1⟩
  · have HT : Hid (ofN n = (0, false)) := Lib.hid (by unfold ofN; rw [if_pos (by omega)])
    go_enter Tryd.func15, Tryd.ntmps15
    go_wp2
    go_ret2
    exact ⟨by rw [HT.out]; rfl, rfl⟩
  · have HT : Hid (ofN n = (0, false)) := Lib.hid (by unfold ofN; rw [if_pos (by omega)])
    go_enter Tryd.func15, Tryd.ntmps15
    go_wp2
    go_ret2
    exact ⟨by rw [HT.out]; rfl, rfl⟩
  · have HT : Hid (ofN n = (n + 65536, true)) := Lib.hid (by unfold ofN; rw [if_neg (by omega)]; rw [show n % 65536 = n + 65536 by omega])
    have e : IntKind.u16.wrap (n + 65536) = n + 65536 := by rw [IntKind.wrap_u16]; omega
    go_enter Tryd.func15, Tryd.ntmps15
    go_wp2
    go_ret2
    exact ⟨by rw [HT.out]; rfl, rfl⟩
  · have HT : Hid (ofN n = (n, true)) := Lib.hid (by unfold ofN; rw [if_neg (by omega)]; rw [show n % 65536 = n by omega])
    have e : IntKind.u16.wrap n = n := by rw [IntKind.wrap_u16]; omega
    go_enter Tryd.func15, Tryd.ntmps15
    go_wp2
    go_ret2
    exact ⟨by rw [HT.out]; rfl, rfl⟩

theorem refTakes_any (op : Int) (h0 : 0 ≤ op) (h1 : op ≤ 255) (w : World) :
    Calls Tryd.prog 12 #[.int .u8 op] w fun e w' => e = .returned (.int .i64 (takesN op)) ∧ w = w' := by
  have h : op < 1 ∨ 31 < op ∨ op = 6 ∨ op = 7 ∨ op = 23 ∨ op = 30 ∨ (1 ≤ op ∧ op ≤ 31 ∧ op ≠ 6 ∧ op ≠ 7 ∧ op ≠ 23 ∧ op ≠ 30) := by omega
  rcases h with h | h | rfl | rfl | rfl | rfl | h
  · have HT : Hid (takesN op = 0) := Lib.hid (by unfold takesN; rw [if_pos (by omega)])
    go_enter Tryd.func12, Tryd.ntmps12
    go_wp2
    go_ret
    exact ⟨by rw [HT.out]; rfl, rfl⟩
  · have HT : Hid (takesN op = 0) := Lib.hid (by unfold takesN; rw [if_pos (by omega)])
    have h2 : ¬ op < 1 := by omega
    go_enter Tryd.func12, Tryd.ntmps12
    go_wp2
    go_ret
    exact ⟨by rw [HT.out]; rfl, rfl⟩
  all_goals try
    go_enter Tryd.func12, Tryd.ntmps12
    go_wp2
    go_ret
    exact ⟨rfl, rfl⟩
  · obtain ⟨h2, h3, m0, m1, m2, m3⟩ := h
    have HT : Hid (takesN op = 2) := Lib.hid (by unfold takesN; rw [if_neg (by omega), if_neg (by omega)])
    have n0 : (op == 6) = false := by rw [beq_eq_false_iff_ne]; omega
    have n1 : (op == 7) = false := by rw [beq_eq_false_iff_ne]; omega
    have n2 : (op == 23) = false := by rw [beq_eq_false_iff_ne]; omega
    have n3 : (op == 30) = false := by rw [beq_eq_false_iff_ne]; omega
    go_enter Tryd.func12, Tryd.ntmps12
    go_wp2
    go_ret
    exact ⟨by rw [HT.out]; rfl, rfl⟩

/-- How x stands to y. -/
def cmp3 (x y : Int) : Int := if x < y then -1 else if y < x then 1 else 0
theorem cmp3_le (x y : Int) : (cmp3 x y ≤ 0) = (x ≤ y) := by unfold cmp3; split <;> (try split) <;> (apply propext; omega)

theorem cmp_s (a b : Int) (a0 : 0 ≤ a) (a1 : a ≤ 65535) (b0 : 0 ≤ b) (b1 : b ≤ 65535) (w : World) :
    Calls Tryd.prog 29 #[.int .u16 a, .int .u16 b] w fun e w' => e = .returned (.int .i64 (cmp3 (sg a) (sg b))) ∧ w = w' := by
  have h : sg a < sg b ∨ sg a = sg b ∨ sg b < sg a := by omega
  rcases h with h | h | h
  · rw [show cmp3 (sg a) (sg b) = -1 by unfold cmp3; rw [if_pos h]]
    exact cmp_s_lt a b a0 a1 b0 b1 w h
  · rw [show cmp3 (sg a) (sg b) = 0 by unfold cmp3; rw [if_neg (by omega), if_neg (by omega)]]
    obtain rfl := sg_inj a b a0 a1 b0 b1 h
    exact cmp_s_eq a a0 a1 w
  · rw [show cmp3 (sg a) (sg b) = 1 by unfold cmp3; rw [if_neg (by omega), if_pos h]]
    exact cmp_s_gt a b a0 a1 b0 b1 w h

theorem cmp_u (a b : Int) (a0 : 0 ≤ a) (a1 : a ≤ 65535) (b0 : 0 ≤ b) (b1 : b ≤ 65535) (w : World) :
    Calls Tryd.prog 30 #[.int .u16 a, .int .u16 b] w fun e w' => e = .returned (.int .i64 (cmp3 (a) (b))) ∧ w = w' := by
  have h : a < b ∨ a = b ∨ b < a := by omega
  rcases h with h | h | h
  · rw [show cmp3 (a) (b) = -1 by unfold cmp3; rw [if_pos h]]
    exact cmp_u_lt a b a0 a1 b0 b1 w h
  · rw [show cmp3 (a) (b) = 0 by unfold cmp3; rw [if_neg (by omega), if_neg (by omega)]]
    obtain rfl := h
    exact cmp_u_eq a a0 a1 w
  · rw [show cmp3 (a) (b) = 1 by unfold cmp3; rw [if_neg (by omega), if_pos h]]
    exact cmp_u_gt a b a0 a1 b0 b1 w h

theorem Within_any (s : Bool) (a lo hi : Int) (a0 : 0 ≤ a) (a1 : a ≤ 65535) (l0 : 0 ≤ lo) (l1 : lo ≤ 65535) (h0 : 0 ≤ hi) (h1 : hi ≤ 65535) (w : World) :
    Calls Tryd.prog 18 #[.bool s, .int .u16 a, .int .u16 lo, .int .u16 hi] w fun e w' => e = .returned (.bool (withinB s a lo hi)) ∧ w = w' := by
  cases s
  · by_cases g1 : lo ≤ a
    · have HW : Hid (withinB false a lo hi = decide (a ≤ hi)) := Lib.hid (by simp [withinB, g1])
      obtain ⟨c, hc⟩ : ∃ c, cmp3 (lo) (a) = c := ⟨_, rfl⟩
      have k1 : c ≤ 0 := by rw [← hc, cmp3_le]; exact g1
      obtain ⟨d, hd⟩ : ∃ d, cmp3 (a) (hi) = d := ⟨_, rfl⟩
      have k2 : decide (d ≤ 0) = decide (a ≤ hi) := by rw [← hd]; exact decide_eq_decide.2 (by rw [cmp3_le])
      have HK := Lib.hid k2
      have HC := Lib.hid hc
      have HDD := Lib.hid hd
      clear hc hd k2 g1
      go_enter Tryd.func18, Tryd.ntmps18
      go_wp2_with fail
      refine (cmp_u lo a l0 l1 a0 a1 _).mono ?_
      rintro e w1 ⟨rfl, rfl⟩
      rw [HC.out]
      go_wp2_with fail
      refine (cmp_u a hi a0 a1 h0 h1 _).mono ?_
      rintro e w1 ⟨rfl, rfl⟩
      rw [HDD.out]
      go_wp2_with fail
      go_ret
      exact ⟨by rw [HW.out, ← HK.out]; rfl, rfl⟩
    · have HW : Hid (withinB false a lo hi = false) := Lib.hid (by simp [withinB, g1])
      obtain ⟨c, hc⟩ : ∃ c, cmp3 (lo) (a) = c := ⟨_, rfl⟩
      have k1 : ¬ c ≤ 0 := by rw [← hc, cmp3_le]; exact g1
      have HC := Lib.hid hc
      clear hc g1
      go_enter Tryd.func18, Tryd.ntmps18
      go_wp2_with fail
      refine (cmp_u lo a l0 l1 a0 a1 _).mono ?_
      rintro e w1 ⟨rfl, rfl⟩
      rw [HC.out]
      go_wp2_with fail
      go_ret
      exact ⟨by rw [HW.out]; rfl, rfl⟩
  · by_cases g1 : sg lo ≤ sg a
    · have HW : Hid (withinB true a lo hi = decide (sg a ≤ sg hi)) := Lib.hid (by simp [withinB, g1])
      obtain ⟨c, hc⟩ : ∃ c, cmp3 (sg lo) (sg a) = c := ⟨_, rfl⟩
      have k1 : c ≤ 0 := by rw [← hc, cmp3_le]; exact g1
      obtain ⟨d, hd⟩ : ∃ d, cmp3 (sg a) (sg hi) = d := ⟨_, rfl⟩
      have k2 : decide (d ≤ 0) = decide (sg a ≤ sg hi) := by rw [← hd]; exact decide_eq_decide.2 (by rw [cmp3_le])
      have HK := Lib.hid k2
      have HC := Lib.hid hc
      have HDD := Lib.hid hd
      clear hc hd k2 g1
      go_enter Tryd.func18, Tryd.ntmps18
      go_wp2_with fail
      refine (cmp_s lo a l0 l1 a0 a1 _).mono ?_
      rintro e w1 ⟨rfl, rfl⟩
      rw [HC.out]
      go_wp2_with fail
      refine (cmp_s a hi a0 a1 h0 h1 _).mono ?_
      rintro e w1 ⟨rfl, rfl⟩
      rw [HDD.out]
      go_wp2_with fail
      go_ret
      exact ⟨by rw [HW.out, ← HK.out]; rfl, rfl⟩
    · have HW : Hid (withinB true a lo hi = false) := Lib.hid (by simp [withinB, g1])
      obtain ⟨c, hc⟩ : ∃ c, cmp3 (sg lo) (sg a) = c := ⟨_, rfl⟩
      have k1 : ¬ c ≤ 0 := by rw [← hc, cmp3_le]; exact g1
      have HC := Lib.hid hc
      clear hc g1
      go_enter Tryd.func18, Tryd.ntmps18
      go_wp2_with fail
      refine (cmp_s lo a l0 l1 a0 a1 _).mono ?_
      rintro e w1 ⟨rfl, rfl⟩
      rw [HC.out]
      go_wp2_with fail
      go_ret
      exact ⟨by rw [HW.out]; rfl, rfl⟩

theorem refWithin_any (s : Bool) (a lo hi : Int) (a0 : 0 ≤ a) (a1 : a ≤ 65535) (l0 : 0 ≤ lo) (l1 : lo ≤ 65535) (h0 : 0 ≤ hi) (h1 : hi ≤ 65535) (w : World) :
    Calls Tryd.prog 19 #[.bool s, .int .u16 a, .int .u16 lo, .int .u16 hi] w fun e w' => e = .returned (.bool (withinB s a lo hi)) ∧ w = w' := by
  cases s
  · by_cases g1 : lo ≤ a
    · have HW : Hid (withinB false a lo hi = decide (a ≤ hi)) := Lib.hid (by simp [withinB, g1])
      go_enter Tryd.func19, Tryd.ntmps19
      go_wp2_with fail
      go_ret
      exact ⟨by rw [HW.out]; rfl, rfl⟩
    · have HW : Hid (withinB false a lo hi = false) := Lib.hid (by simp [withinB, g1])
      go_enter Tryd.func19, Tryd.ntmps19
      go_wp2_with fail
      go_ret
      exact ⟨by rw [HW.out]; rfl, rfl⟩
  · by_cases g1 : sg lo ≤ sg a
    · have HW : Hid (withinB true a lo hi = decide (sg a ≤ sg hi)) := Lib.hid (by simp [withinB, g1])
      go_enter Tryd.func19, Tryd.ntmps19
      go_wp2_with fail
      refine (refInt_any a a0 a1 _).mono ?_
      rintro e w1 ⟨rfl, rfl⟩
      go_wp2_with fail
      refine (refInt_any lo l0 l1 _).mono ?_
      rintro e w1 ⟨rfl, rfl⟩
      go_wp2_with fail
      refine (refInt_any a a0 a1 _).mono ?_
      rintro e w1 ⟨rfl, rfl⟩
      go_wp2_with fail
      refine (refInt_any hi h0 h1 _).mono ?_
      rintro e w1 ⟨rfl, rfl⟩
      go_wp2_with fail
      go_ret
      exact ⟨by rw [HW.out]; rfl, rfl⟩
    · have HW : Hid (withinB true a lo hi = false) := Lib.hid (by simp [withinB, g1])
      go_enter Tryd.func19, Tryd.ntmps19
      go_wp2_with fail
      refine (refInt_any a a0 a1 _).mono ?_
      rintro e w1 ⟨rfl, rfl⟩
      go_wp2_with fail
      refine (refInt_any lo l0 l1 _).mono ?_
      rintro e w1 ⟨rfl, rfl⟩
      go_wp2_with fail
      go_ret
      exact ⟨by rw [HW.out]; rfl, rfl⟩

theorem so_any (b : Bool) (w : World) : Calls Tryd.prog 26 #[.bool b] w (Ret (ask b) w) := by
  cases b
  all_goals
    go_enter Tryd.func26, Tryd.ntmps26
    go_wp2
    go_ret2
    exact ⟨rfl, rfl⟩

theorem asks_r0 (x y : Int) (w : World) : Calls Tryd.prog 27 #[.int .u8 0, .int .i64 x, .int .i64 y] w (Ret (ask (decide (x < y))) w) := by
  go_enter Tryd.func27, Tryd.ntmps27
  go_wp2_with fail
  refine (so_any _ _).mono ?_
  rintro e w1 ⟨rfl, rfl⟩
  go_wp2_with fail
  go_ret2
  exact ⟨rfl, rfl⟩

theorem asks_r1 (x y : Int) (w : World) : Calls Tryd.prog 27 #[.int .u8 1, .int .i64 x, .int .i64 y] w (Ret (ask (decide (x ≤ y))) w) := by
  go_enter Tryd.func27, Tryd.ntmps27
  go_wp2_with fail
  refine (so_any _ _).mono ?_
  rintro e w1 ⟨rfl, rfl⟩
  go_wp2_with fail
  go_ret2
  exact ⟨rfl, rfl⟩

theorem asks_r2 (x y : Int) (w : World) : Calls Tryd.prog 27 #[.int .u8 2, .int .i64 x, .int .i64 y] w (Ret (ask (decide (y < x))) w) := by
  go_enter Tryd.func27, Tryd.ntmps27
  go_wp2_with fail
  refine (so_any _ _).mono ?_
  rintro e w1 ⟨rfl, rfl⟩
  go_wp2_with fail
  go_ret2
  exact ⟨rfl, rfl⟩

theorem asks_r3 (x y : Int) (w : World) : Calls Tryd.prog 27 #[.int .u8 3, .int .i64 x, .int .i64 y] w (Ret (ask (decide (y ≤ x))) w) := by
  go_enter Tryd.func27, Tryd.ntmps27
  go_wp2_with fail
  refine (so_any _ _).mono ?_
  rintro e w1 ⟨rfl, rfl⟩
  go_wp2_with fail
  go_ret2
  exact ⟨rfl, rfl⟩

/-- A number within bounds, as a word. -/
def fitL (n lo hi : Int) : Int × Int := if n < lo ∨ hi < n then (0, 1) else (n % 65536, 0)
theorem fitL_s (n : Int) : fitL n (-32768) 32767 = fS n := by
  unfold fitL fS
  by_cases h : n < -32768 ∨ 32767 < n
  · rw [if_pos h, if_neg (by omega)]
  · rw [if_neg h, if_pos (by omega)]
theorem fitL_u (n : Int) : fitL n 0 65535 = fU n := by
  unfold fitL fU
  by_cases h : n < 0 ∨ 65535 < n
  · rw [if_pos h, if_neg (by omega)]
  · rw [if_neg h, if_pos (by omega), show n % 65536 = n by omega]

theorem fits_any (n lo hi : Int) (n0 : -9223372036854775808 ≤ n) (n1 : n ≤ 9223372036854775807) (hlo : -32768 ≤ lo) (hhi : hi ≤ 65535) (w : World) :
    Calls Tryd.prog 25 #[.int .i64 n, .int .i64 lo, .int .i64 hi] w (Ret (fitL n lo hi) w) := by
  have h : n < lo ∨ (¬ n < lo ∧ hi < n) ∨ (¬ n < lo ∧ ¬ hi < n) := by omega
  rcases h with h | ⟨h, g⟩ | ⟨h, g⟩
  · have HF : Hid (fitL n lo hi = (0, 1)) := Lib.hid (by unfold fitL; rw [if_pos (by omega)])
    go_enter Tryd.func25, Tryd.ntmps25
    go_wp2_with fail
    go_ret2
    exact ⟨ret_of (p := (0, 1)) HF.out.symm, rfl⟩
  · have HF : Hid (fitL n lo hi = (0, 1)) := Lib.hid (by unfold fitL; rw [if_pos (by omega)])
    go_enter Tryd.func25, Tryd.ntmps25
    go_wp2_with fail
    go_ret2
    exact ⟨ret_of (p := (0, 1)) HF.out.symm, rfl⟩
  · have HF : Hid (fitL n lo hi = (n % 65536, 0)) := Lib.hid (by unfold fitL; rw [if_neg (by omega)])
    have HO : Hid (ofN n = (n % 65536, true)) := Lib.hid (by unfold ofN; rw [if_neg (by omega)])
    go_enter Tryd.func25, Tryd.ntmps25
    go_wp2_with fail
    refine (refOf_any n n0 n1 _).mono ?_
    rintro e w1 ⟨rfl, rfl⟩
    rw [HO.out]
    go_wp2_with fail
    go_ret2
    exact ⟨ret_of (p := (n % 65536, 0)) HF.out.symm, rfl⟩

theorem ret_i2 {p q r t : Int} (h : p = q) (g : r = t) : Ending.returned (.tuple #[.int .i64 p, .int .i64 r]) = Ending.returned (.tuple #[.int .i64 q, .int .i64 t]) := by rw [h, g]

theorem quotient_11 (X Y : Int) (x0 : 0 < X) (x1 : X ≤ 65536) (y0 : 0 < Y) (y1 : Y ≤ 65536) (w : World) :
    Calls Tryd.prog 37 #[.int .i64 (-X), .int .i64 (-Y)] w fun e w' => e = .returned (.tuple #[.int .i64 ((-X).tdiv (-Y)), .int .i64 ((-X).tmod (-Y))]) ∧ w = w' := by
  have hq : (-X).tdiv (-Y) = (X / Y) := by rw [Int.neg_tdiv, Int.tdiv_neg, Int.neg_neg, Int.tdiv_eq_ediv_of_nonneg (by omega)]
  have hm := tm (-X) (-Y)
  rw [hq] at hm
  have HQ := Lib.hid hq
  have hr : (-X).tmod (-Y) = (-X) - (-Y) * (X / Y) := by omega
  have HR := Lib.hid hr
  clear hq hm hr
  have q0 : 0 ≤ X / Y := Int.ediv_nonneg (by omega) (by omega)
  have q1 : X / Y ≤ X := Int.ediv_le_self _ (by omega)
  have e := Int.mul_ediv_add_emod X Y
  have r0 := Int.emod_nonneg X (show Y ≠ 0 by omega)
  have p0 : 0 ≤ Y * (X / Y) := Int.mul_nonneg (by omega) q0
  have p1 : Y * (X / Y) ≤ 65536 := by omega
  clear e r0
  have y2 : (Y == 0) = false := by rw [beq_eq_false_iff_ne]; omega
  have y3 : 1 ≤ Y := by omega
  have x2 : max (-X) X = X := by omega
  have x3 : max X (-X) = X := by omega
  have y4 : max (-Y) Y = Y := by omega
  have y5 : max Y (-Y) = Y := by omega
  have n1 : decide (Y < 0) = false := by rw [decide_eq_false_iff_not]; omega
  have n2 : decide (X < 0) = false := by rw [decide_eq_false_iff_not]; omega
  have e1 : -Y * (X / Y) = -(Y * (X / Y)) := Int.neg_mul _ _
  have e2 : Y * -(X / Y) = -(Y * (X / Y)) := Int.mul_neg _ _
  have e3 : -Y * -(X / Y) = Y * (X / Y) := by rw [Int.neg_mul, Int.mul_neg, Int.neg_neg]
  go_enter Tryd.func37, Tryd.ntmps37
  go_wp2_with fail
  go_ret2
  refine ⟨ret_i2 ?_ ?_, rfl⟩
  · rw [HQ.out]
  · rw [HR.out]; rw [Int.neg_mul]; omega

theorem quotient_10 (X Y : Int) (x0 : 0 < X) (x1 : X ≤ 65536) (y0 : 0 < Y) (y1 : Y ≤ 65536) (w : World) :
    Calls Tryd.prog 37 #[.int .i64 (-X), .int .i64 Y] w fun e w' => e = .returned (.tuple #[.int .i64 ((-X).tdiv Y), .int .i64 ((-X).tmod Y)]) ∧ w = w' := by
  have hq : (-X).tdiv Y = (-(X / Y)) := by rw [Int.neg_tdiv, Int.tdiv_eq_ediv_of_nonneg (by omega)]
  have hm := tm (-X) Y
  rw [hq] at hm
  have HQ := Lib.hid hq
  have hr : (-X).tmod Y = (-X) - Y * (-(X / Y)) := by omega
  have HR := Lib.hid hr
  clear hq hm hr
  have q0 : 0 ≤ X / Y := Int.ediv_nonneg (by omega) (by omega)
  have q1 : X / Y ≤ X := Int.ediv_le_self _ (by omega)
  have e := Int.mul_ediv_add_emod X Y
  have r0 := Int.emod_nonneg X (show Y ≠ 0 by omega)
  have p0 : 0 ≤ Y * (X / Y) := Int.mul_nonneg (by omega) q0
  have p1 : Y * (X / Y) ≤ 65536 := by omega
  clear e r0
  have y2 : (Y == 0) = false := by rw [beq_eq_false_iff_ne]; omega
  have y3 : 1 ≤ Y := by omega
  have x2 : max (-X) X = X := by omega
  have x3 : max X (-X) = X := by omega
  have y4 : max (-Y) Y = Y := by omega
  have y5 : max Y (-Y) = Y := by omega
  have n1 : decide (Y < 0) = false := by rw [decide_eq_false_iff_not]; omega
  have n2 : decide (X < 0) = false := by rw [decide_eq_false_iff_not]; omega
  have e1 : -Y * (X / Y) = -(Y * (X / Y)) := Int.neg_mul _ _
  have e2 : Y * -(X / Y) = -(Y * (X / Y)) := Int.mul_neg _ _
  have e3 : -Y * -(X / Y) = Y * (X / Y) := by rw [Int.neg_mul, Int.mul_neg, Int.neg_neg]
  go_enter Tryd.func37, Tryd.ntmps37
  go_wp2_with fail
  go_ret2
  refine ⟨ret_i2 ?_ ?_, rfl⟩
  · rw [HQ.out]
  · rw [HR.out]; rw [Int.mul_neg]; omega

theorem quotient_01 (X Y : Int) (x0 : 0 ≤ X) (x1 : X ≤ 65536) (y0 : 0 < Y) (y1 : Y ≤ 65536) (w : World) :
    Calls Tryd.prog 37 #[.int .i64 X, .int .i64 (-Y)] w fun e w' => e = .returned (.tuple #[.int .i64 (X.tdiv (-Y)), .int .i64 (X.tmod (-Y))]) ∧ w = w' := by
  have hq : X.tdiv (-Y) = (-(X / Y)) := by rw [Int.tdiv_neg, Int.tdiv_eq_ediv_of_nonneg (by omega)]
  have hm := tm X (-Y)
  rw [hq] at hm
  have HQ := Lib.hid hq
  have hr : X.tmod (-Y) = X - (-Y) * (-(X / Y)) := by omega
  have HR := Lib.hid hr
  clear hq hm hr
  have q0 : 0 ≤ X / Y := Int.ediv_nonneg (by omega) (by omega)
  have q1 : X / Y ≤ X := Int.ediv_le_self _ (by omega)
  have e := Int.mul_ediv_add_emod X Y
  have r0 := Int.emod_nonneg X (show Y ≠ 0 by omega)
  have p0 : 0 ≤ Y * (X / Y) := Int.mul_nonneg (by omega) q0
  have p1 : Y * (X / Y) ≤ 65536 := by omega
  clear e r0
  have y2 : (Y == 0) = false := by rw [beq_eq_false_iff_ne]; omega
  have y3 : 1 ≤ Y := by omega
  have x2 : max (-X) X = X := by omega
  have x3 : max X (-X) = X := by omega
  have y4 : max (-Y) Y = Y := by omega
  have y5 : max Y (-Y) = Y := by omega
  have n1 : decide (Y < 0) = false := by rw [decide_eq_false_iff_not]; omega
  have n2 : decide (X < 0) = false := by rw [decide_eq_false_iff_not]; omega
  have e1 : -Y * (X / Y) = -(Y * (X / Y)) := Int.neg_mul _ _
  have e2 : Y * -(X / Y) = -(Y * (X / Y)) := Int.mul_neg _ _
  have e3 : -Y * -(X / Y) = Y * (X / Y) := by rw [Int.neg_mul, Int.mul_neg, Int.neg_neg]
  go_enter Tryd.func37, Tryd.ntmps37
  go_wp2_with fail
  go_ret2
  refine ⟨ret_i2 ?_ ?_, rfl⟩
  · rw [HQ.out]
  · rw [HR.out]; rw [Int.neg_mul, Int.mul_neg, Int.neg_neg]

theorem quotient_00 (X Y : Int) (x0 : 0 ≤ X) (x1 : X ≤ 65536) (y0 : 0 < Y) (y1 : Y ≤ 65536) (w : World) :
    Calls Tryd.prog 37 #[.int .i64 X, .int .i64 Y] w fun e w' => e = .returned (.tuple #[.int .i64 (X.tdiv Y), .int .i64 (X.tmod Y)]) ∧ w = w' := by
  have hq : X.tdiv Y = (X / Y) := by rw [Int.tdiv_eq_ediv_of_nonneg (by omega)]
  have hm := tm X Y
  rw [hq] at hm
  have HQ := Lib.hid hq
  have hr : X.tmod Y = X - Y * (X / Y) := by omega
  have HR := Lib.hid hr
  clear hq hm hr
  have q0 : 0 ≤ X / Y := Int.ediv_nonneg (by omega) (by omega)
  have q1 : X / Y ≤ X := Int.ediv_le_self _ (by omega)
  have e := Int.mul_ediv_add_emod X Y
  have r0 := Int.emod_nonneg X (show Y ≠ 0 by omega)
  have p0 : 0 ≤ Y * (X / Y) := Int.mul_nonneg (by omega) q0
  have p1 : Y * (X / Y) ≤ 65536 := by omega
  clear e r0
  have y2 : (Y == 0) = false := by rw [beq_eq_false_iff_ne]; omega
  have y3 : 1 ≤ Y := by omega
  have x2 : max (-X) X = X := by omega
  have x3 : max X (-X) = X := by omega
  have y4 : max (-Y) Y = Y := by omega
  have y5 : max Y (-Y) = Y := by omega
  have n1 : decide (Y < 0) = false := by rw [decide_eq_false_iff_not]; omega
  have n2 : decide (X < 0) = false := by rw [decide_eq_false_iff_not]; omega
  have e1 : -Y * (X / Y) = -(Y * (X / Y)) := Int.neg_mul _ _
  have e2 : Y * -(X / Y) = -(Y * (X / Y)) := Int.mul_neg _ _
  have e3 : -Y * -(X / Y) = Y * (X / Y) := by rw [Int.neg_mul, Int.mul_neg, Int.neg_neg]
  go_enter Tryd.func37, Tryd.ntmps37
  go_wp2_with fail
  go_ret2
  refine ⟨ret_i2 ?_ ?_, rfl⟩
  · rw [HQ.out]
  · rw [HR.out]

theorem quotient_any (a b : Int) (a0 : -65536 ≤ a) (a1 : a ≤ 65536) (b0 : -65536 ≤ b) (b1 : b ≤ 65536) (hb : b ≠ 0) (w : World) :
    Calls Tryd.prog 37 #[.int .i64 a, .int .i64 b] w fun e w' => e = .returned (.tuple #[.int .i64 (a.tdiv b), .int .i64 (a.tmod b)]) ∧ w = w' := by
  by_cases ha : a < 0 <;> by_cases hb2 : b < 0
  · have h := quotient_11 (-a) (-b) (by omega) (by omega) (by omega) (by omega) w
    simp only [Int.neg_neg] at h; exact h
  · have h := quotient_10 (-a) b (by omega) (by omega) (by omega) (by omega) w
    simp only [Int.neg_neg] at h; exact h
  · have h := quotient_01 a (-b) (by omega) (by omega) (by omega) (by omega) w
    simp only [Int.neg_neg] at h; exact h
  · exact quotient_00 a b (by omega) (by omega) (by omega) (by omega) w
end Go.Proofs.YtgghdllbegkioaaDoor
