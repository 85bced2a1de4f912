/- WordAsks, walked: of two words just one of below, the same, above holds. -/
import Derived.Test.YtgghdllbegkioaaDoorWdH
namespace Go.Proofs.YtgghdllbegkioaaDoor
open Go.RowKit
set_option maxHeartbeats 1000000
set_option maxRecDepth 100000
set_option linter.unusedVariables false


theorem asks_eqlo (a b : Int) (a0 : 0 ≤ a) (a1 : a ≤ 65535) (b0 : 0 ≤ b) (b1 : b ≤ 65535) (h : a = b) (h1 : a < 32768) (w : World) (htab : Lib.TabIs Tryd.prog w "internal/strconv.uint64pow10" .u64 Lib.pow10Tab) :
    Calls Tryd.prog 6 #[.int .u16 a, .int .u16 b] w fun e w' => e = .returned (.bool true) ∧ Below w.heap.size w w' := by
  have HT := Lib.hid htab
  clear htab
  subst h
  have ga : sg a = a := sg_lo (by omega)
  have v13 := Lib.hid (ask_is1 (D_13 a a) (by omega))
  have v14 := Lib.hid (ask_is0 (D_14 a a) (by omega))
  have v15 := Lib.hid (ask_is0 (D_15 a a) (by omega))
  have v16 := Lib.hid (ask_is1 (D_16 a a) (by omega))
  have v17 := Lib.hid (ask_is0 (D_17 a a) (by omega))
  have v18 := Lib.hid (ask_is1 (D_18 a a) (by omega))
  have v19 := Lib.hid (ask_is0 (D_19 a a) (by omega))
  have v20 := Lib.hid (ask_is1 (D_20 a a) (by omega))
  have v21 := Lib.hid (ask_is0 (D_21 a a) (by omega))
  have v22 := Lib.hid (ask_is1 (D_22 a a) (by omega))
  have e2 : D 2 a a = ((sg a - sg a) % 65536, 0) := by rw [D_2, fS_in (by omega) (by omega)]
  obtain ⟨d, hd⟩ : ∃ d, d = (sg a - sg a) % 65536 := ⟨_, rfl⟩
  have d0 : 0 ≤ d := by omega
  have d1 : d ≤ 65535 := by omega
  have sd : sg d = sg a - sg a := by rw [hd, sg_mod (by omega) (by omega)]
  rw [← hd] at e2
  have sdl : 0 ≤ sg d := by omega
  have sdb : decide (sg d < 0) = false := by rw [decide_eq_false_iff_not]; omega
  have E2 := Lib.hid e2
  clear e2 hd sd
  have e9 : D 9 a a = (a - a, 0) := by rw [D_9, fU_in (by omega) (by omega)]
  obtain ⟨c, hc⟩ : ∃ c, c = a - a := ⟨_, rfl⟩
  rw [← hc] at e9
  have E9 := Lib.hid e9
  clear e9 hc
  clear ga
  go_enter Tryd.func6, Tryd.ntmps6
  go_wp2_with fail
  refine (does_is 13 a a 1 true (by omega) (by omega) a0 a1 a0 a1 v13.out (ask_ok (D_13 a a)) _).mono ?_
  rintro e w1 ⟨rfl, q1⟩
  have p1 := q1
  clear q1
  go_wp2_with fail
  refine (does_is 14 a a 0 true (by omega) (by omega) a0 a1 a0 a1 v14.out (ask_ok (D_14 a a)) _).mono ?_
  rintro e w2 ⟨rfl, q2⟩
  have p2 := bt p1 q2
  clear q2 p1
  go_wp2_with fail
  refine (does_is 15 a a 0 true (by omega) (by omega) a0 a1 a0 a1 v15.out (ask_ok (D_15 a a)) _).mono ?_
  rintro e w3 ⟨rfl, q3⟩
  have p3 := bt p2 q3
  clear q3 p2
  go_wp2_with fail
  refine (does_is 16 a a 1 true (by omega) (by omega) a0 a1 a0 a1 v16.out (ask_ok (D_16 a a)) _).mono ?_
  rintro e w4 ⟨rfl, q4⟩
  have p4 := bt p3 q4
  clear q4 p3
  go_wp2_with fail
  refine (does_is 17 a a 0 true (by omega) (by omega) a0 a1 a0 a1 v17.out (ask_ok (D_17 a a)) _).mono ?_
  rintro e w5 ⟨rfl, q5⟩
  have p5 := bt p4 q5
  clear q5 p4
  go_wp2_with fail
  refine (does_is 18 a a 1 true (by omega) (by omega) a0 a1 a0 a1 v18.out (ask_ok (D_18 a a)) _).mono ?_
  rintro e w6 ⟨rfl, q6⟩
  have p6 := bt p5 q6
  clear q6 p5
  go_wp2_with fail
  refine (does_is 19 a a 0 true (by omega) (by omega) a0 a1 a0 a1 v19.out (ask_ok (D_19 a a)) _).mono ?_
  rintro e w7 ⟨rfl, q7⟩
  have p7 := bt p6 q7
  clear q7 p6
  go_wp2_with fail
  refine (does_is 20 a a 1 true (by omega) (by omega) a0 a1 a0 a1 v20.out (ask_ok (D_20 a a)) _).mono ?_
  rintro e w8 ⟨rfl, q8⟩
  have p8 := bt p7 q8
  clear q8 p7
  go_wp2_with fail
  refine (does_is 21 a a 0 true (by omega) (by omega) a0 a1 a0 a1 v21.out (ask_ok (D_21 a a)) _).mono ?_
  rintro e w9 ⟨rfl, q9⟩
  have p9 := bt p8 q9
  clear q9 p8
  go_wp2_with fail
  refine (does_is 22 a a 1 true (by omega) (by omega) a0 a1 a0 a1 v22.out (ask_ok (D_22 a a)) _).mono ?_
  rintro e w10 ⟨rfl, q10⟩
  have p10 := bt p9 q10
  clear q10 p9
  go_wp2_with fail
  refine (does_is 2 a a d true (by omega) (by omega) a0 a1 a0 a1 (by rw [E2.out]) (by rw [E2.out]; rfl) _).mono ?_
  rintro e w11 ⟨rfl, q11⟩
  have p11 := bt p10 q11
  clear q11 p10
  go_wp2_with fail
  refine (does_is 9 a a c true (by omega) (by omega) a0 a1 a0 a1 (by rw [E9.out]) (by rw [E9.out]; rfl) _).mono ?_
  rintro e w12 ⟨rfl, q12⟩
  have p12 := bt p11 q12
  clear q12 p11
  have HT2 := Lib.hid (Joins.tab_stays gTab HT.out p12 (Nat.le_refl _))
  go_wp2_with fail
  refine (Int_any d d0 d1 _).mono ?_
  rintro e w13 ⟨rfl, rfl⟩
  go_wp2_with fail
  refine (alive_any _ HT2.out).mono ?_
  rintro e w14 ⟨rfl, q14⟩
  have pz := bt p12 q14
  go_wp2_with fail
  go_ret
  exact ⟨rfl, pz⟩

theorem asks_eqhi (a b : Int) (a0 : 0 ≤ a) (a1 : a ≤ 65535) (b0 : 0 ≤ b) (b1 : b ≤ 65535) (h : a = b) (h1 : 32768 ≤ a) (w : World) (htab : Lib.TabIs Tryd.prog w "internal/strconv.uint64pow10" .u64 Lib.pow10Tab) :
    Calls Tryd.prog 6 #[.int .u16 a, .int .u16 b] w fun e w' => e = .returned (.bool true) ∧ Below w.heap.size w w' := by
  have HT := Lib.hid htab
  clear htab
  subst h
  have ga : sg a = a - 65536 := sg_hi (by omega)
  have v13 := Lib.hid (ask_is1 (D_13 a a) (by omega))
  have v14 := Lib.hid (ask_is0 (D_14 a a) (by omega))
  have v15 := Lib.hid (ask_is0 (D_15 a a) (by omega))
  have v16 := Lib.hid (ask_is1 (D_16 a a) (by omega))
  have v17 := Lib.hid (ask_is0 (D_17 a a) (by omega))
  have v18 := Lib.hid (ask_is1 (D_18 a a) (by omega))
  have v19 := Lib.hid (ask_is0 (D_19 a a) (by omega))
  have v20 := Lib.hid (ask_is1 (D_20 a a) (by omega))
  have v21 := Lib.hid (ask_is0 (D_21 a a) (by omega))
  have v22 := Lib.hid (ask_is1 (D_22 a a) (by omega))
  have e2 : D 2 a a = ((sg a - sg a) % 65536, 0) := by rw [D_2, fS_in (by omega) (by omega)]
  obtain ⟨d, hd⟩ : ∃ d, d = (sg a - sg a) % 65536 := ⟨_, rfl⟩
  have d0 : 0 ≤ d := by omega
  have d1 : d ≤ 65535 := by omega
  have sd : sg d = sg a - sg a := by rw [hd, sg_mod (by omega) (by omega)]
  rw [← hd] at e2
  have sdl : 0 ≤ sg d := by omega
  have sdb : decide (sg d < 0) = false := by rw [decide_eq_false_iff_not]; omega
  have E2 := Lib.hid e2
  clear e2 hd sd
  have e9 : D 9 a a = (a - a, 0) := by rw [D_9, fU_in (by omega) (by omega)]
  obtain ⟨c, hc⟩ : ∃ c, c = a - a := ⟨_, rfl⟩
  rw [← hc] at e9
  have E9 := Lib.hid e9
  clear e9 hc
  clear ga
  go_enter Tryd.func6, Tryd.ntmps6
  go_wp2_with fail
  refine (does_is 13 a a 1 true (by omega) (by omega) a0 a1 a0 a1 v13.out (ask_ok (D_13 a a)) _).mono ?_
  rintro e w1 ⟨rfl, q1⟩
  have p1 := q1
  clear q1
  go_wp2_with fail
  refine (does_is 14 a a 0 true (by omega) (by omega) a0 a1 a0 a1 v14.out (ask_ok (D_14 a a)) _).mono ?_
  rintro e w2 ⟨rfl, q2⟩
  have p2 := bt p1 q2
  clear q2 p1
  go_wp2_with fail
  refine (does_is 15 a a 0 true (by omega) (by omega) a0 a1 a0 a1 v15.out (ask_ok (D_15 a a)) _).mono ?_
  rintro e w3 ⟨rfl, q3⟩
  have p3 := bt p2 q3
  clear q3 p2
  go_wp2_with fail
  refine (does_is 16 a a 1 true (by omega) (by omega) a0 a1 a0 a1 v16.out (ask_ok (D_16 a a)) _).mono ?_
  rintro e w4 ⟨rfl, q4⟩
  have p4 := bt p3 q4
  clear q4 p3
  go_wp2_with fail
  refine (does_is 17 a a 0 true (by omega) (by omega) a0 a1 a0 a1 v17.out (ask_ok (D_17 a a)) _).mono ?_
  rintro e w5 ⟨rfl, q5⟩
  have p5 := bt p4 q5
  clear q5 p4
  go_wp2_with fail
  refine (does_is 18 a a 1 true (by omega) (by omega) a0 a1 a0 a1 v18.out (ask_ok (D_18 a a)) _).mono ?_
  rintro e w6 ⟨rfl, q6⟩
  have p6 := bt p5 q6
  clear q6 p5
  go_wp2_with fail
  refine (does_is 19 a a 0 true (by omega) (by omega) a0 a1 a0 a1 v19.out (ask_ok (D_19 a a)) _).mono ?_
  rintro e w7 ⟨rfl, q7⟩
  have p7 := bt p6 q7
  clear q7 p6
  go_wp2_with fail
  refine (does_is 20 a a 1 true (by omega) (by omega) a0 a1 a0 a1 v20.out (ask_ok (D_20 a a)) _).mono ?_
  rintro e w8 ⟨rfl, q8⟩
  have p8 := bt p7 q8
  clear q8 p7
  go_wp2_with fail
  refine (does_is 21 a a 0 true (by omega) (by omega) a0 a1 a0 a1 v21.out (ask_ok (D_21 a a)) _).mono ?_
  rintro e w9 ⟨rfl, q9⟩
  have p9 := bt p8 q9
  clear q9 p8
  go_wp2_with fail
  refine (does_is 22 a a 1 true (by omega) (by omega) a0 a1 a0 a1 v22.out (ask_ok (D_22 a a)) _).mono ?_
  rintro e w10 ⟨rfl, q10⟩
  have p10 := bt p9 q10
  clear q10 p9
  go_wp2_with fail
  refine (does_is 2 a a d true (by omega) (by omega) a0 a1 a0 a1 (by rw [E2.out]) (by rw [E2.out]; rfl) _).mono ?_
  rintro e w11 ⟨rfl, q11⟩
  have p11 := bt p10 q11
  clear q11 p10
  go_wp2_with fail
  refine (does_is 9 a a c true (by omega) (by omega) a0 a1 a0 a1 (by rw [E9.out]) (by rw [E9.out]; rfl) _).mono ?_
  rintro e w12 ⟨rfl, q12⟩
  have p12 := bt p11 q12
  clear q12 p11
  have HT2 := Lib.hid (Joins.tab_stays gTab HT.out p12 (Nat.le_refl _))
  go_wp2_with fail
  refine (Int_any d d0 d1 _).mono ?_
  rintro e w13 ⟨rfl, rfl⟩
  go_wp2_with fail
  refine (alive_any _ HT2.out).mono ?_
  rintro e w14 ⟨rfl, q14⟩
  have pz := bt p12 q14
  go_wp2_with fail
  go_ret
  exact ⟨rfl, pz⟩

theorem asks_ltlo (a b : Int) (a0 : 0 ≤ a) (a1 : a ≤ 65535) (b0 : 0 ≤ b) (b1 : b ≤ 65535) (h : a < b) (h1 : b < 32768) (w : World) (htab : Lib.TabIs Tryd.prog w "internal/strconv.uint64pow10" .u64 Lib.pow10Tab) :
    Calls Tryd.prog 6 #[.int .u16 a, .int .u16 b] w fun e w' => e = .returned (.bool true) ∧ Below w.heap.size w w' := by
  have HT := Lib.hid htab
  clear htab
  have ga : sg a = a := sg_lo (by omega)
  have gb : sg b = b := sg_lo (by omega)
  have v13 := Lib.hid (ask_is0 (D_13 a b) (by omega))
  have v14 := Lib.hid (ask_is1 (D_14 a b) (by omega))
  have v15 := Lib.hid (ask_is1 (D_15 a b) (by omega))
  have v16 := Lib.hid (ask_is1 (D_16 a b) (by omega))
  have v17 := Lib.hid (ask_is0 (D_17 a b) (by omega))
  have v18 := Lib.hid (ask_is0 (D_18 a b) (by omega))
  have v19 := Lib.hid (ask_is1 (D_19 a b) (by omega))
  have v20 := Lib.hid (ask_is1 (D_20 a b) (by omega))
  have v21 := Lib.hid (ask_is0 (D_21 a b) (by omega))
  have v22 := Lib.hid (ask_is0 (D_22 a b) (by omega))
  have e2 : D 2 a b = ((sg a - sg b) % 65536, 0) := by rw [D_2, fS_in (by omega) (by omega)]
  obtain ⟨d, hd⟩ : ∃ d, d = (sg a - sg b) % 65536 := ⟨_, rfl⟩
  have d0 : 0 ≤ d := by omega
  have d1 : d ≤ 65535 := by omega
  have sd : sg d = sg a - sg b := by rw [hd, sg_mod (by omega) (by omega)]
  rw [← hd] at e2
  have sdl : sg d < 0 := by omega
  have sdb : decide (sg d < 0) = true := by rw [decide_eq_true_iff]; omega
  have E2 := Lib.hid e2
  clear e2 hd sd
  have e9 : D 9 a b = (0, 1) := by rw [D_9, fU_out (by omega)]
  have E9 := Lib.hid e9
  clear e9
  clear ga gb
  have nab : (a == b) = false := by rw [beq_eq_false_iff_ne]; omega
  go_enter Tryd.func6, Tryd.ntmps6
  go_wp2_with fail
  refine (does_is 13 a b 0 true (by omega) (by omega) a0 a1 b0 b1 v13.out (ask_ok (D_13 a b)) _).mono ?_
  rintro e w1 ⟨rfl, q1⟩
  have p1 := q1
  clear q1
  go_wp2_with fail
  refine (does_is 14 a b 1 true (by omega) (by omega) a0 a1 b0 b1 v14.out (ask_ok (D_14 a b)) _).mono ?_
  rintro e w2 ⟨rfl, q2⟩
  have p2 := bt p1 q2
  clear q2 p1
  go_wp2_with fail
  refine (does_is 15 a b 1 true (by omega) (by omega) a0 a1 b0 b1 v15.out (ask_ok (D_15 a b)) _).mono ?_
  rintro e w3 ⟨rfl, q3⟩
  have p3 := bt p2 q3
  clear q3 p2
  go_wp2_with fail
  refine (does_is 16 a b 1 true (by omega) (by omega) a0 a1 b0 b1 v16.out (ask_ok (D_16 a b)) _).mono ?_
  rintro e w4 ⟨rfl, q4⟩
  have p4 := bt p3 q4
  clear q4 p3
  go_wp2_with fail
  refine (does_is 17 a b 0 true (by omega) (by omega) a0 a1 b0 b1 v17.out (ask_ok (D_17 a b)) _).mono ?_
  rintro e w5 ⟨rfl, q5⟩
  have p5 := bt p4 q5
  clear q5 p4
  go_wp2_with fail
  refine (does_is 18 a b 0 true (by omega) (by omega) a0 a1 b0 b1 v18.out (ask_ok (D_18 a b)) _).mono ?_
  rintro e w6 ⟨rfl, q6⟩
  have p6 := bt p5 q6
  clear q6 p5
  go_wp2_with fail
  refine (does_is 19 a b 1 true (by omega) (by omega) a0 a1 b0 b1 v19.out (ask_ok (D_19 a b)) _).mono ?_
  rintro e w7 ⟨rfl, q7⟩
  have p7 := bt p6 q7
  clear q7 p6
  go_wp2_with fail
  refine (does_is 20 a b 1 true (by omega) (by omega) a0 a1 b0 b1 v20.out (ask_ok (D_20 a b)) _).mono ?_
  rintro e w8 ⟨rfl, q8⟩
  have p8 := bt p7 q8
  clear q8 p7
  go_wp2_with fail
  refine (does_is 21 a b 0 true (by omega) (by omega) a0 a1 b0 b1 v21.out (ask_ok (D_21 a b)) _).mono ?_
  rintro e w9 ⟨rfl, q9⟩
  have p9 := bt p8 q9
  clear q9 p8
  go_wp2_with fail
  refine (does_is 22 a b 0 true (by omega) (by omega) a0 a1 b0 b1 v22.out (ask_ok (D_22 a b)) _).mono ?_
  rintro e w10 ⟨rfl, q10⟩
  have p10 := bt p9 q10
  clear q10 p9
  go_wp2_with fail
  refine (does_is 2 a b d true (by omega) (by omega) a0 a1 b0 b1 (by rw [E2.out]) (by rw [E2.out]; rfl) _).mono ?_
  rintro e w11 ⟨rfl, q11⟩
  have p11 := bt p10 q11
  clear q11 p10
  go_wp2_with fail
  refine (does_is 9 a b 0 false (by omega) (by omega) a0 a1 b0 b1 (by rw [E9.out]) (by rw [E9.out]; rfl) _).mono ?_
  rintro e w12 ⟨rfl, q12⟩
  have p12 := bt p11 q12
  clear q12 p11
  have HT2 := Lib.hid (Joins.tab_stays gTab HT.out p12 (Nat.le_refl _))
  go_wp2_with fail
  refine (Int_any d d0 d1 _).mono ?_
  rintro e w13 ⟨rfl, rfl⟩
  go_wp2_with fail
  refine (alive_any _ HT2.out).mono ?_
  rintro e w14 ⟨rfl, q14⟩
  have pz := bt p12 q14
  go_wp2_with fail
  go_ret
  exact ⟨rfl, pz⟩

theorem asks_lthi (a b : Int) (a0 : 0 ≤ a) (a1 : a ≤ 65535) (b0 : 0 ≤ b) (b1 : b ≤ 65535) (h : a < b) (h1 : 32768 ≤ a) (w : World) (htab : Lib.TabIs Tryd.prog w "internal/strconv.uint64pow10" .u64 Lib.pow10Tab) :
    Calls Tryd.prog 6 #[.int .u16 a, .int .u16 b] w fun e w' => e = .returned (.bool true) ∧ Below w.heap.size w w' := by
  have HT := Lib.hid htab
  clear htab
  have ga : sg a = a - 65536 := sg_hi (by omega)
  have gb : sg b = b - 65536 := sg_hi (by omega)
  have v13 := Lib.hid (ask_is0 (D_13 a b) (by omega))
  have v14 := Lib.hid (ask_is1 (D_14 a b) (by omega))
  have v15 := Lib.hid (ask_is1 (D_15 a b) (by omega))
  have v16 := Lib.hid (ask_is1 (D_16 a b) (by omega))
  have v17 := Lib.hid (ask_is0 (D_17 a b) (by omega))
  have v18 := Lib.hid (ask_is0 (D_18 a b) (by omega))
  have v19 := Lib.hid (ask_is1 (D_19 a b) (by omega))
  have v20 := Lib.hid (ask_is1 (D_20 a b) (by omega))
  have v21 := Lib.hid (ask_is0 (D_21 a b) (by omega))
  have v22 := Lib.hid (ask_is0 (D_22 a b) (by omega))
  have e2 : D 2 a b = ((sg a - sg b) % 65536, 0) := by rw [D_2, fS_in (by omega) (by omega)]
  obtain ⟨d, hd⟩ : ∃ d, d = (sg a - sg b) % 65536 := ⟨_, rfl⟩
  have d0 : 0 ≤ d := by omega
  have d1 : d ≤ 65535 := by omega
  have sd : sg d = sg a - sg b := by rw [hd, sg_mod (by omega) (by omega)]
  rw [← hd] at e2
  have sdl : sg d < 0 := by omega
  have sdb : decide (sg d < 0) = true := by rw [decide_eq_true_iff]; omega
  have E2 := Lib.hid e2
  clear e2 hd sd
  have e9 : D 9 a b = (0, 1) := by rw [D_9, fU_out (by omega)]
  have E9 := Lib.hid e9
  clear e9
  clear ga gb
  have nab : (a == b) = false := by rw [beq_eq_false_iff_ne]; omega
  go_enter Tryd.func6, Tryd.ntmps6
  go_wp2_with fail
  refine (does_is 13 a b 0 true (by omega) (by omega) a0 a1 b0 b1 v13.out (ask_ok (D_13 a b)) _).mono ?_
  rintro e w1 ⟨rfl, q1⟩
  have p1 := q1
  clear q1
  go_wp2_with fail
  refine (does_is 14 a b 1 true (by omega) (by omega) a0 a1 b0 b1 v14.out (ask_ok (D_14 a b)) _).mono ?_
  rintro e w2 ⟨rfl, q2⟩
  have p2 := bt p1 q2
  clear q2 p1
  go_wp2_with fail
  refine (does_is 15 a b 1 true (by omega) (by omega) a0 a1 b0 b1 v15.out (ask_ok (D_15 a b)) _).mono ?_
  rintro e w3 ⟨rfl, q3⟩
  have p3 := bt p2 q3
  clear q3 p2
  go_wp2_with fail
  refine (does_is 16 a b 1 true (by omega) (by omega) a0 a1 b0 b1 v16.out (ask_ok (D_16 a b)) _).mono ?_
  rintro e w4 ⟨rfl, q4⟩
  have p4 := bt p3 q4
  clear q4 p3
  go_wp2_with fail
  refine (does_is 17 a b 0 true (by omega) (by omega) a0 a1 b0 b1 v17.out (ask_ok (D_17 a b)) _).mono ?_
  rintro e w5 ⟨rfl, q5⟩
  have p5 := bt p4 q5
  clear q5 p4
  go_wp2_with fail
  refine (does_is 18 a b 0 true (by omega) (by omega) a0 a1 b0 b1 v18.out (ask_ok (D_18 a b)) _).mono ?_
  rintro e w6 ⟨rfl, q6⟩
  have p6 := bt p5 q6
  clear q6 p5
  go_wp2_with fail
  refine (does_is 19 a b 1 true (by omega) (by omega) a0 a1 b0 b1 v19.out (ask_ok (D_19 a b)) _).mono ?_
  rintro e w7 ⟨rfl, q7⟩
  have p7 := bt p6 q7
  clear q7 p6
  go_wp2_with fail
  refine (does_is 20 a b 1 true (by omega) (by omega) a0 a1 b0 b1 v20.out (ask_ok (D_20 a b)) _).mono ?_
  rintro e w8 ⟨rfl, q8⟩
  have p8 := bt p7 q8
  clear q8 p7
  go_wp2_with fail
  refine (does_is 21 a b 0 true (by omega) (by omega) a0 a1 b0 b1 v21.out (ask_ok (D_21 a b)) _).mono ?_
  rintro e w9 ⟨rfl, q9⟩
  have p9 := bt p8 q9
  clear q9 p8
  go_wp2_with fail
  refine (does_is 22 a b 0 true (by omega) (by omega) a0 a1 b0 b1 v22.out (ask_ok (D_22 a b)) _).mono ?_
  rintro e w10 ⟨rfl, q10⟩
  have p10 := bt p9 q10
  clear q10 p9
  go_wp2_with fail
  refine (does_is 2 a b d true (by omega) (by omega) a0 a1 b0 b1 (by rw [E2.out]) (by rw [E2.out]; rfl) _).mono ?_
  rintro e w11 ⟨rfl, q11⟩
  have p11 := bt p10 q11
  clear q11 p10
  go_wp2_with fail
  refine (does_is 9 a b 0 false (by omega) (by omega) a0 a1 b0 b1 (by rw [E9.out]) (by rw [E9.out]; rfl) _).mono ?_
  rintro e w12 ⟨rfl, q12⟩
  have p12 := bt p11 q12
  clear q12 p11
  have HT2 := Lib.hid (Joins.tab_stays gTab HT.out p12 (Nat.le_refl _))
  go_wp2_with fail
  refine (Int_any d d0 d1 _).mono ?_
  rintro e w13 ⟨rfl, rfl⟩
  go_wp2_with fail
  refine (alive_any _ HT2.out).mono ?_
  rintro e w14 ⟨rfl, q14⟩
  have pz := bt p12 q14
  go_wp2_with fail
  go_ret
  exact ⟨rfl, pz⟩

theorem asks_gtlo (a b : Int) (a0 : 0 ≤ a) (a1 : a ≤ 65535) (b0 : 0 ≤ b) (b1 : b ≤ 65535) (h : b < a) (h1 : a < 32768) (w : World) (htab : Lib.TabIs Tryd.prog w "internal/strconv.uint64pow10" .u64 Lib.pow10Tab) :
    Calls Tryd.prog 6 #[.int .u16 a, .int .u16 b] w fun e w' => e = .returned (.bool true) ∧ Below w.heap.size w w' := by
  have HT := Lib.hid htab
  clear htab
  have ga : sg a = a := sg_lo (by omega)
  have gb : sg b = b := sg_lo (by omega)
  have v13 := Lib.hid (ask_is0 (D_13 a b) (by omega))
  have v14 := Lib.hid (ask_is1 (D_14 a b) (by omega))
  have v15 := Lib.hid (ask_is0 (D_15 a b) (by omega))
  have v16 := Lib.hid (ask_is0 (D_16 a b) (by omega))
  have v17 := Lib.hid (ask_is1 (D_17 a b) (by omega))
  have v18 := Lib.hid (ask_is1 (D_18 a b) (by omega))
  have v19 := Lib.hid (ask_is0 (D_19 a b) (by omega))
  have v20 := Lib.hid (ask_is0 (D_20 a b) (by omega))
  have v21 := Lib.hid (ask_is1 (D_21 a b) (by omega))
  have v22 := Lib.hid (ask_is1 (D_22 a b) (by omega))
  have e2 : D 2 a b = ((sg a - sg b) % 65536, 0) := by rw [D_2, fS_in (by omega) (by omega)]
  obtain ⟨d, hd⟩ : ∃ d, d = (sg a - sg b) % 65536 := ⟨_, rfl⟩
  have d0 : 0 ≤ d := by omega
  have d1 : d ≤ 65535 := by omega
  have sd : sg d = sg a - sg b := by rw [hd, sg_mod (by omega) (by omega)]
  rw [← hd] at e2
  have sdl : 0 ≤ sg d := by omega
  have sdb : decide (sg d < 0) = false := by rw [decide_eq_false_iff_not]; omega
  have E2 := Lib.hid e2
  clear e2 hd sd
  have e9 : D 9 a b = (a - b, 0) := by rw [D_9, fU_in (by omega) (by omega)]
  obtain ⟨c, hc⟩ : ∃ c, c = a - b := ⟨_, rfl⟩
  rw [← hc] at e9
  have E9 := Lib.hid e9
  clear e9 hc
  clear ga gb
  have nab : (a == b) = false := by rw [beq_eq_false_iff_ne]; omega
  go_enter Tryd.func6, Tryd.ntmps6
  go_wp2_with fail
  refine (does_is 13 a b 0 true (by omega) (by omega) a0 a1 b0 b1 v13.out (ask_ok (D_13 a b)) _).mono ?_
  rintro e w1 ⟨rfl, q1⟩
  have p1 := q1
  clear q1
  go_wp2_with fail
  refine (does_is 14 a b 1 true (by omega) (by omega) a0 a1 b0 b1 v14.out (ask_ok (D_14 a b)) _).mono ?_
  rintro e w2 ⟨rfl, q2⟩
  have p2 := bt p1 q2
  clear q2 p1
  go_wp2_with fail
  refine (does_is 15 a b 0 true (by omega) (by omega) a0 a1 b0 b1 v15.out (ask_ok (D_15 a b)) _).mono ?_
  rintro e w3 ⟨rfl, q3⟩
  have p3 := bt p2 q3
  clear q3 p2
  go_wp2_with fail
  refine (does_is 16 a b 0 true (by omega) (by omega) a0 a1 b0 b1 v16.out (ask_ok (D_16 a b)) _).mono ?_
  rintro e w4 ⟨rfl, q4⟩
  have p4 := bt p3 q4
  clear q4 p3
  go_wp2_with fail
  refine (does_is 17 a b 1 true (by omega) (by omega) a0 a1 b0 b1 v17.out (ask_ok (D_17 a b)) _).mono ?_
  rintro e w5 ⟨rfl, q5⟩
  have p5 := bt p4 q5
  clear q5 p4
  go_wp2_with fail
  refine (does_is 18 a b 1 true (by omega) (by omega) a0 a1 b0 b1 v18.out (ask_ok (D_18 a b)) _).mono ?_
  rintro e w6 ⟨rfl, q6⟩
  have p6 := bt p5 q6
  clear q6 p5
  go_wp2_with fail
  refine (does_is 19 a b 0 true (by omega) (by omega) a0 a1 b0 b1 v19.out (ask_ok (D_19 a b)) _).mono ?_
  rintro e w7 ⟨rfl, q7⟩
  have p7 := bt p6 q7
  clear q7 p6
  go_wp2_with fail
  refine (does_is 20 a b 0 true (by omega) (by omega) a0 a1 b0 b1 v20.out (ask_ok (D_20 a b)) _).mono ?_
  rintro e w8 ⟨rfl, q8⟩
  have p8 := bt p7 q8
  clear q8 p7
  go_wp2_with fail
  refine (does_is 21 a b 1 true (by omega) (by omega) a0 a1 b0 b1 v21.out (ask_ok (D_21 a b)) _).mono ?_
  rintro e w9 ⟨rfl, q9⟩
  have p9 := bt p8 q9
  clear q9 p8
  go_wp2_with fail
  refine (does_is 22 a b 1 true (by omega) (by omega) a0 a1 b0 b1 v22.out (ask_ok (D_22 a b)) _).mono ?_
  rintro e w10 ⟨rfl, q10⟩
  have p10 := bt p9 q10
  clear q10 p9
  go_wp2_with fail
  refine (does_is 2 a b d true (by omega) (by omega) a0 a1 b0 b1 (by rw [E2.out]) (by rw [E2.out]; rfl) _).mono ?_
  rintro e w11 ⟨rfl, q11⟩
  have p11 := bt p10 q11
  clear q11 p10
  go_wp2_with fail
  refine (does_is 9 a b c true (by omega) (by omega) a0 a1 b0 b1 (by rw [E9.out]) (by rw [E9.out]; rfl) _).mono ?_
  rintro e w12 ⟨rfl, q12⟩
  have p12 := bt p11 q12
  clear q12 p11
  have HT2 := Lib.hid (Joins.tab_stays gTab HT.out p12 (Nat.le_refl _))
  go_wp2_with fail
  refine (Int_any d d0 d1 _).mono ?_
  rintro e w13 ⟨rfl, rfl⟩
  go_wp2_with fail
  refine (alive_any _ HT2.out).mono ?_
  rintro e w14 ⟨rfl, q14⟩
  have pz := bt p12 q14
  go_wp2_with fail
  go_ret
  exact ⟨rfl, pz⟩

theorem asks_gthi (a b : Int) (a0 : 0 ≤ a) (a1 : a ≤ 65535) (b0 : 0 ≤ b) (b1 : b ≤ 65535) (h : b < a) (h1 : 32768 ≤ b) (w : World) (htab : Lib.TabIs Tryd.prog w "internal/strconv.uint64pow10" .u64 Lib.pow10Tab) :
    Calls Tryd.prog 6 #[.int .u16 a, .int .u16 b] w fun e w' => e = .returned (.bool true) ∧ Below w.heap.size w w' := by
  have HT := Lib.hid htab
  clear htab
  have ga : sg a = a - 65536 := sg_hi (by omega)
  have gb : sg b = b - 65536 := sg_hi (by omega)
  have v13 := Lib.hid (ask_is0 (D_13 a b) (by omega))
  have v14 := Lib.hid (ask_is1 (D_14 a b) (by omega))
  have v15 := Lib.hid (ask_is0 (D_15 a b) (by omega))
  have v16 := Lib.hid (ask_is0 (D_16 a b) (by omega))
  have v17 := Lib.hid (ask_is1 (D_17 a b) (by omega))
  have v18 := Lib.hid (ask_is1 (D_18 a b) (by omega))
  have v19 := Lib.hid (ask_is0 (D_19 a b) (by omega))
  have v20 := Lib.hid (ask_is0 (D_20 a b) (by omega))
  have v21 := Lib.hid (ask_is1 (D_21 a b) (by omega))
  have v22 := Lib.hid (ask_is1 (D_22 a b) (by omega))
  have e2 : D 2 a b = ((sg a - sg b) % 65536, 0) := by rw [D_2, fS_in (by omega) (by omega)]
  obtain ⟨d, hd⟩ : ∃ d, d = (sg a - sg b) % 65536 := ⟨_, rfl⟩
  have d0 : 0 ≤ d := by omega
  have d1 : d ≤ 65535 := by omega
  have sd : sg d = sg a - sg b := by rw [hd, sg_mod (by omega) (by omega)]
  rw [← hd] at e2
  have sdl : 0 ≤ sg d := by omega
  have sdb : decide (sg d < 0) = false := by rw [decide_eq_false_iff_not]; omega
  have E2 := Lib.hid e2
  clear e2 hd sd
  have e9 : D 9 a b = (a - b, 0) := by rw [D_9, fU_in (by omega) (by omega)]
  obtain ⟨c, hc⟩ : ∃ c, c = a - b := ⟨_, rfl⟩
  rw [← hc] at e9
  have E9 := Lib.hid e9
  clear e9 hc
  clear ga gb
  have nab : (a == b) = false := by rw [beq_eq_false_iff_ne]; omega
  go_enter Tryd.func6, Tryd.ntmps6
  go_wp2_with fail
  refine (does_is 13 a b 0 true (by omega) (by omega) a0 a1 b0 b1 v13.out (ask_ok (D_13 a b)) _).mono ?_
  rintro e w1 ⟨rfl, q1⟩
  have p1 := q1
  clear q1
  go_wp2_with fail
  refine (does_is 14 a b 1 true (by omega) (by omega) a0 a1 b0 b1 v14.out (ask_ok (D_14 a b)) _).mono ?_
  rintro e w2 ⟨rfl, q2⟩
  have p2 := bt p1 q2
  clear q2 p1
  go_wp2_with fail
  refine (does_is 15 a b 0 true (by omega) (by omega) a0 a1 b0 b1 v15.out (ask_ok (D_15 a b)) _).mono ?_
  rintro e w3 ⟨rfl, q3⟩
  have p3 := bt p2 q3
  clear q3 p2
  go_wp2_with fail
  refine (does_is 16 a b 0 true (by omega) (by omega) a0 a1 b0 b1 v16.out (ask_ok (D_16 a b)) _).mono ?_
  rintro e w4 ⟨rfl, q4⟩
  have p4 := bt p3 q4
  clear q4 p3
  go_wp2_with fail
  refine (does_is 17 a b 1 true (by omega) (by omega) a0 a1 b0 b1 v17.out (ask_ok (D_17 a b)) _).mono ?_
  rintro e w5 ⟨rfl, q5⟩
  have p5 := bt p4 q5
  clear q5 p4
  go_wp2_with fail
  refine (does_is 18 a b 1 true (by omega) (by omega) a0 a1 b0 b1 v18.out (ask_ok (D_18 a b)) _).mono ?_
  rintro e w6 ⟨rfl, q6⟩
  have p6 := bt p5 q6
  clear q6 p5
  go_wp2_with fail
  refine (does_is 19 a b 0 true (by omega) (by omega) a0 a1 b0 b1 v19.out (ask_ok (D_19 a b)) _).mono ?_
  rintro e w7 ⟨rfl, q7⟩
  have p7 := bt p6 q7
  clear q7 p6
  go_wp2_with fail
  refine (does_is 20 a b 0 true (by omega) (by omega) a0 a1 b0 b1 v20.out (ask_ok (D_20 a b)) _).mono ?_
  rintro e w8 ⟨rfl, q8⟩
  have p8 := bt p7 q8
  clear q8 p7
  go_wp2_with fail
  refine (does_is 21 a b 1 true (by omega) (by omega) a0 a1 b0 b1 v21.out (ask_ok (D_21 a b)) _).mono ?_
  rintro e w9 ⟨rfl, q9⟩
  have p9 := bt p8 q9
  clear q9 p8
  go_wp2_with fail
  refine (does_is 22 a b 1 true (by omega) (by omega) a0 a1 b0 b1 v22.out (ask_ok (D_22 a b)) _).mono ?_
  rintro e w10 ⟨rfl, q10⟩
  have p10 := bt p9 q10
  clear q10 p9
  go_wp2_with fail
  refine (does_is 2 a b d true (by omega) (by omega) a0 a1 b0 b1 (by rw [E2.out]) (by rw [E2.out]; rfl) _).mono ?_
  rintro e w11 ⟨rfl, q11⟩
  have p11 := bt p10 q11
  clear q11 p10
  go_wp2_with fail
  refine (does_is 9 a b c true (by omega) (by omega) a0 a1 b0 b1 (by rw [E9.out]) (by rw [E9.out]; rfl) _).mono ?_
  rintro e w12 ⟨rfl, q12⟩
  have p12 := bt p11 q12
  clear q12 p11
  have HT2 := Lib.hid (Joins.tab_stays gTab HT.out p12 (Nat.le_refl _))
  go_wp2_with fail
  refine (Int_any d d0 d1 _).mono ?_
  rintro e w13 ⟨rfl, rfl⟩
  go_wp2_with fail
  refine (alive_any _ HT2.out).mono ?_
  rintro e w14 ⟨rfl, q14⟩
  have pz := bt p12 q14
  go_wp2_with fail
  go_ret
  exact ⟨rfl, pz⟩

theorem asks_abin (a b : Int) (a0 : 0 ≤ a) (a1 : a ≤ 65535) (b0 : 0 ≤ b) (b1 : b ≤ 65535) (h : a < 32768) (h1 : 32768 ≤ b) (h2 : a - b + 65536 ≤ 32767) (w : World) (htab : Lib.TabIs Tryd.prog w "internal/strconv.uint64pow10" .u64 Lib.pow10Tab) :
    Calls Tryd.prog 6 #[.int .u16 a, .int .u16 b] w fun e w' => e = .returned (.bool true) ∧ Below w.heap.size w w' := by
  have HT := Lib.hid htab
  clear htab
  have ga : sg a = a := sg_lo (by omega)
  have gb : sg b = b - 65536 := sg_hi (by omega)
  have v13 := Lib.hid (ask_is0 (D_13 a b) (by omega))
  have v14 := Lib.hid (ask_is1 (D_14 a b) (by omega))
  have v15 := Lib.hid (ask_is0 (D_15 a b) (by omega))
  have v16 := Lib.hid (ask_is0 (D_16 a b) (by omega))
  have v17 := Lib.hid (ask_is1 (D_17 a b) (by omega))
  have v18 := Lib.hid (ask_is1 (D_18 a b) (by omega))
  have v19 := Lib.hid (ask_is1 (D_19 a b) (by omega))
  have v20 := Lib.hid (ask_is1 (D_20 a b) (by omega))
  have v21 := Lib.hid (ask_is0 (D_21 a b) (by omega))
  have v22 := Lib.hid (ask_is0 (D_22 a b) (by omega))
  have e2 : D 2 a b = ((sg a - sg b) % 65536, 0) := by rw [D_2, fS_in (by omega) (by omega)]
  obtain ⟨d, hd⟩ : ∃ d, d = (sg a - sg b) % 65536 := ⟨_, rfl⟩
  have d0 : 0 ≤ d := by omega
  have d1 : d ≤ 65535 := by omega
  have sd : sg d = sg a - sg b := by rw [hd, sg_mod (by omega) (by omega)]
  rw [← hd] at e2
  have sdl : 0 ≤ sg d := by omega
  have sdb : decide (sg d < 0) = false := by rw [decide_eq_false_iff_not]; omega
  have E2 := Lib.hid e2
  clear e2 hd sd
  have e9 : D 9 a b = (0, 1) := by rw [D_9, fU_out (by omega)]
  have E9 := Lib.hid e9
  clear e9
  clear ga gb
  have nab : (a == b) = false := by rw [beq_eq_false_iff_ne]; omega
  go_enter Tryd.func6, Tryd.ntmps6
  go_wp2_with fail
  refine (does_is 13 a b 0 true (by omega) (by omega) a0 a1 b0 b1 v13.out (ask_ok (D_13 a b)) _).mono ?_
  rintro e w1 ⟨rfl, q1⟩
  have p1 := q1
  clear q1
  go_wp2_with fail
  refine (does_is 14 a b 1 true (by omega) (by omega) a0 a1 b0 b1 v14.out (ask_ok (D_14 a b)) _).mono ?_
  rintro e w2 ⟨rfl, q2⟩
  have p2 := bt p1 q2
  clear q2 p1
  go_wp2_with fail
  refine (does_is 15 a b 0 true (by omega) (by omega) a0 a1 b0 b1 v15.out (ask_ok (D_15 a b)) _).mono ?_
  rintro e w3 ⟨rfl, q3⟩
  have p3 := bt p2 q3
  clear q3 p2
  go_wp2_with fail
  refine (does_is 16 a b 0 true (by omega) (by omega) a0 a1 b0 b1 v16.out (ask_ok (D_16 a b)) _).mono ?_
  rintro e w4 ⟨rfl, q4⟩
  have p4 := bt p3 q4
  clear q4 p3
  go_wp2_with fail
  refine (does_is 17 a b 1 true (by omega) (by omega) a0 a1 b0 b1 v17.out (ask_ok (D_17 a b)) _).mono ?_
  rintro e w5 ⟨rfl, q5⟩
  have p5 := bt p4 q5
  clear q5 p4
  go_wp2_with fail
  refine (does_is 18 a b 1 true (by omega) (by omega) a0 a1 b0 b1 v18.out (ask_ok (D_18 a b)) _).mono ?_
  rintro e w6 ⟨rfl, q6⟩
  have p6 := bt p5 q6
  clear q6 p5
  go_wp2_with fail
  refine (does_is 19 a b 1 true (by omega) (by omega) a0 a1 b0 b1 v19.out (ask_ok (D_19 a b)) _).mono ?_
  rintro e w7 ⟨rfl, q7⟩
  have p7 := bt p6 q7
  clear q7 p6
  go_wp2_with fail
  refine (does_is 20 a b 1 true (by omega) (by omega) a0 a1 b0 b1 v20.out (ask_ok (D_20 a b)) _).mono ?_
  rintro e w8 ⟨rfl, q8⟩
  have p8 := bt p7 q8
  clear q8 p7
  go_wp2_with fail
  refine (does_is 21 a b 0 true (by omega) (by omega) a0 a1 b0 b1 v21.out (ask_ok (D_21 a b)) _).mono ?_
  rintro e w9 ⟨rfl, q9⟩
  have p9 := bt p8 q9
  clear q9 p8
  go_wp2_with fail
  refine (does_is 22 a b 0 true (by omega) (by omega) a0 a1 b0 b1 v22.out (ask_ok (D_22 a b)) _).mono ?_
  rintro e w10 ⟨rfl, q10⟩
  have p10 := bt p9 q10
  clear q10 p9
  go_wp2_with fail
  refine (does_is 2 a b d true (by omega) (by omega) a0 a1 b0 b1 (by rw [E2.out]) (by rw [E2.out]; rfl) _).mono ?_
  rintro e w11 ⟨rfl, q11⟩
  have p11 := bt p10 q11
  clear q11 p10
  go_wp2_with fail
  refine (does_is 9 a b 0 false (by omega) (by omega) a0 a1 b0 b1 (by rw [E9.out]) (by rw [E9.out]; rfl) _).mono ?_
  rintro e w12 ⟨rfl, q12⟩
  have p12 := bt p11 q12
  clear q12 p11
  have HT2 := Lib.hid (Joins.tab_stays gTab HT.out p12 (Nat.le_refl _))
  go_wp2_with fail
  refine (Int_any d d0 d1 _).mono ?_
  rintro e w13 ⟨rfl, rfl⟩
  go_wp2_with fail
  refine (alive_any _ HT2.out).mono ?_
  rintro e w14 ⟨rfl, q14⟩
  have pz := bt p12 q14
  go_wp2_with fail
  go_ret
  exact ⟨rfl, pz⟩

theorem asks_about (a b : Int) (a0 : 0 ≤ a) (a1 : a ≤ 65535) (b0 : 0 ≤ b) (b1 : b ≤ 65535) (h : a < 32768) (h1 : 32768 ≤ b) (h2 : 32767 < a - b + 65536) (w : World) (htab : Lib.TabIs Tryd.prog w "internal/strconv.uint64pow10" .u64 Lib.pow10Tab) :
    Calls Tryd.prog 6 #[.int .u16 a, .int .u16 b] w fun e w' => e = .returned (.bool true) ∧ Below w.heap.size w w' := by
  have HT := Lib.hid htab
  clear htab
  have ga : sg a = a := sg_lo (by omega)
  have gb : sg b = b - 65536 := sg_hi (by omega)
  have v13 := Lib.hid (ask_is0 (D_13 a b) (by omega))
  have v14 := Lib.hid (ask_is1 (D_14 a b) (by omega))
  have v15 := Lib.hid (ask_is0 (D_15 a b) (by omega))
  have v16 := Lib.hid (ask_is0 (D_16 a b) (by omega))
  have v17 := Lib.hid (ask_is1 (D_17 a b) (by omega))
  have v18 := Lib.hid (ask_is1 (D_18 a b) (by omega))
  have v19 := Lib.hid (ask_is1 (D_19 a b) (by omega))
  have v20 := Lib.hid (ask_is1 (D_20 a b) (by omega))
  have v21 := Lib.hid (ask_is0 (D_21 a b) (by omega))
  have v22 := Lib.hid (ask_is0 (D_22 a b) (by omega))
  have e2 : D 2 a b = (0, 1) := by rw [D_2, fS_out (by omega)]
  have E2 := Lib.hid e2
  clear e2
  have e9 : D 9 a b = (0, 1) := by rw [D_9, fU_out (by omega)]
  have E9 := Lib.hid e9
  clear e9
  clear ga gb
  have nab : (a == b) = false := by rw [beq_eq_false_iff_ne]; omega
  go_enter Tryd.func6, Tryd.ntmps6
  go_wp2_with fail
  refine (does_is 13 a b 0 true (by omega) (by omega) a0 a1 b0 b1 v13.out (ask_ok (D_13 a b)) _).mono ?_
  rintro e w1 ⟨rfl, q1⟩
  have p1 := q1
  clear q1
  go_wp2_with fail
  refine (does_is 14 a b 1 true (by omega) (by omega) a0 a1 b0 b1 v14.out (ask_ok (D_14 a b)) _).mono ?_
  rintro e w2 ⟨rfl, q2⟩
  have p2 := bt p1 q2
  clear q2 p1
  go_wp2_with fail
  refine (does_is 15 a b 0 true (by omega) (by omega) a0 a1 b0 b1 v15.out (ask_ok (D_15 a b)) _).mono ?_
  rintro e w3 ⟨rfl, q3⟩
  have p3 := bt p2 q3
  clear q3 p2
  go_wp2_with fail
  refine (does_is 16 a b 0 true (by omega) (by omega) a0 a1 b0 b1 v16.out (ask_ok (D_16 a b)) _).mono ?_
  rintro e w4 ⟨rfl, q4⟩
  have p4 := bt p3 q4
  clear q4 p3
  go_wp2_with fail
  refine (does_is 17 a b 1 true (by omega) (by omega) a0 a1 b0 b1 v17.out (ask_ok (D_17 a b)) _).mono ?_
  rintro e w5 ⟨rfl, q5⟩
  have p5 := bt p4 q5
  clear q5 p4
  go_wp2_with fail
  refine (does_is 18 a b 1 true (by omega) (by omega) a0 a1 b0 b1 v18.out (ask_ok (D_18 a b)) _).mono ?_
  rintro e w6 ⟨rfl, q6⟩
  have p6 := bt p5 q6
  clear q6 p5
  go_wp2_with fail
  refine (does_is 19 a b 1 true (by omega) (by omega) a0 a1 b0 b1 v19.out (ask_ok (D_19 a b)) _).mono ?_
  rintro e w7 ⟨rfl, q7⟩
  have p7 := bt p6 q7
  clear q7 p6
  go_wp2_with fail
  refine (does_is 20 a b 1 true (by omega) (by omega) a0 a1 b0 b1 v20.out (ask_ok (D_20 a b)) _).mono ?_
  rintro e w8 ⟨rfl, q8⟩
  have p8 := bt p7 q8
  clear q8 p7
  go_wp2_with fail
  refine (does_is 21 a b 0 true (by omega) (by omega) a0 a1 b0 b1 v21.out (ask_ok (D_21 a b)) _).mono ?_
  rintro e w9 ⟨rfl, q9⟩
  have p9 := bt p8 q9
  clear q9 p8
  go_wp2_with fail
  refine (does_is 22 a b 0 true (by omega) (by omega) a0 a1 b0 b1 v22.out (ask_ok (D_22 a b)) _).mono ?_
  rintro e w10 ⟨rfl, q10⟩
  have p10 := bt p9 q10
  clear q10 p9
  go_wp2_with fail
  refine (does_is 2 a b 0 false (by omega) (by omega) a0 a1 b0 b1 (by rw [E2.out]) (by rw [E2.out]; rfl) _).mono ?_
  rintro e w11 ⟨rfl, q11⟩
  have p11 := bt p10 q11
  clear q11 p10
  go_wp2_with fail
  refine (does_is 9 a b 0 false (by omega) (by omega) a0 a1 b0 b1 (by rw [E9.out]) (by rw [E9.out]; rfl) _).mono ?_
  rintro e w12 ⟨rfl, q12⟩
  have p12 := bt p11 q12
  clear q12 p11
  have HT2 := Lib.hid (Joins.tab_stays gTab HT.out p12 (Nat.le_refl _))
  go_wp2_with fail
  refine (alive_any _ HT2.out).mono ?_
  rintro e w14 ⟨rfl, q14⟩
  have pz := bt p12 q14
  go_wp2_with fail
  go_ret
  exact ⟨rfl, pz⟩

theorem asks_bain (a b : Int) (a0 : 0 ≤ a) (a1 : a ≤ 65535) (b0 : 0 ≤ b) (b1 : b ≤ 65535) (h : b < 32768) (h1 : 32768 ≤ a) (h2 : -32768 ≤ a - 65536 - b) (w : World) (htab : Lib.TabIs Tryd.prog w "internal/strconv.uint64pow10" .u64 Lib.pow10Tab) :
    Calls Tryd.prog 6 #[.int .u16 a, .int .u16 b] w fun e w' => e = .returned (.bool true) ∧ Below w.heap.size w w' := by
  have HT := Lib.hid htab
  clear htab
  have ga : sg a = a - 65536 := sg_hi (by omega)
  have gb : sg b = b := sg_lo (by omega)
  have v13 := Lib.hid (ask_is0 (D_13 a b) (by omega))
  have v14 := Lib.hid (ask_is1 (D_14 a b) (by omega))
  have v15 := Lib.hid (ask_is1 (D_15 a b) (by omega))
  have v16 := Lib.hid (ask_is1 (D_16 a b) (by omega))
  have v17 := Lib.hid (ask_is0 (D_17 a b) (by omega))
  have v18 := Lib.hid (ask_is0 (D_18 a b) (by omega))
  have v19 := Lib.hid (ask_is0 (D_19 a b) (by omega))
  have v20 := Lib.hid (ask_is0 (D_20 a b) (by omega))
  have v21 := Lib.hid (ask_is1 (D_21 a b) (by omega))
  have v22 := Lib.hid (ask_is1 (D_22 a b) (by omega))
  have e2 : D 2 a b = ((sg a - sg b) % 65536, 0) := by rw [D_2, fS_in (by omega) (by omega)]
  obtain ⟨d, hd⟩ : ∃ d, d = (sg a - sg b) % 65536 := ⟨_, rfl⟩
  have d0 : 0 ≤ d := by omega
  have d1 : d ≤ 65535 := by omega
  have sd : sg d = sg a - sg b := by rw [hd, sg_mod (by omega) (by omega)]
  rw [← hd] at e2
  have sdl : sg d < 0 := by omega
  have sdb : decide (sg d < 0) = true := by rw [decide_eq_true_iff]; omega
  have E2 := Lib.hid e2
  clear e2 hd sd
  have e9 : D 9 a b = (a - b, 0) := by rw [D_9, fU_in (by omega) (by omega)]
  obtain ⟨c, hc⟩ : ∃ c, c = a - b := ⟨_, rfl⟩
  rw [← hc] at e9
  have E9 := Lib.hid e9
  clear e9 hc
  clear ga gb
  have nab : (a == b) = false := by rw [beq_eq_false_iff_ne]; omega
  go_enter Tryd.func6, Tryd.ntmps6
  go_wp2_with fail
  refine (does_is 13 a b 0 true (by omega) (by omega) a0 a1 b0 b1 v13.out (ask_ok (D_13 a b)) _).mono ?_
  rintro e w1 ⟨rfl, q1⟩
  have p1 := q1
  clear q1
  go_wp2_with fail
  refine (does_is 14 a b 1 true (by omega) (by omega) a0 a1 b0 b1 v14.out (ask_ok (D_14 a b)) _).mono ?_
  rintro e w2 ⟨rfl, q2⟩
  have p2 := bt p1 q2
  clear q2 p1
  go_wp2_with fail
  refine (does_is 15 a b 1 true (by omega) (by omega) a0 a1 b0 b1 v15.out (ask_ok (D_15 a b)) _).mono ?_
  rintro e w3 ⟨rfl, q3⟩
  have p3 := bt p2 q3
  clear q3 p2
  go_wp2_with fail
  refine (does_is 16 a b 1 true (by omega) (by omega) a0 a1 b0 b1 v16.out (ask_ok (D_16 a b)) _).mono ?_
  rintro e w4 ⟨rfl, q4⟩
  have p4 := bt p3 q4
  clear q4 p3
  go_wp2_with fail
  refine (does_is 17 a b 0 true (by omega) (by omega) a0 a1 b0 b1 v17.out (ask_ok (D_17 a b)) _).mono ?_
  rintro e w5 ⟨rfl, q5⟩
  have p5 := bt p4 q5
  clear q5 p4
  go_wp2_with fail
  refine (does_is 18 a b 0 true (by omega) (by omega) a0 a1 b0 b1 v18.out (ask_ok (D_18 a b)) _).mono ?_
  rintro e w6 ⟨rfl, q6⟩
  have p6 := bt p5 q6
  clear q6 p5
  go_wp2_with fail
  refine (does_is 19 a b 0 true (by omega) (by omega) a0 a1 b0 b1 v19.out (ask_ok (D_19 a b)) _).mono ?_
  rintro e w7 ⟨rfl, q7⟩
  have p7 := bt p6 q7
  clear q7 p6
  go_wp2_with fail
  refine (does_is 20 a b 0 true (by omega) (by omega) a0 a1 b0 b1 v20.out (ask_ok (D_20 a b)) _).mono ?_
  rintro e w8 ⟨rfl, q8⟩
  have p8 := bt p7 q8
  clear q8 p7
  go_wp2_with fail
  refine (does_is 21 a b 1 true (by omega) (by omega) a0 a1 b0 b1 v21.out (ask_ok (D_21 a b)) _).mono ?_
  rintro e w9 ⟨rfl, q9⟩
  have p9 := bt p8 q9
  clear q9 p8
  go_wp2_with fail
  refine (does_is 22 a b 1 true (by omega) (by omega) a0 a1 b0 b1 v22.out (ask_ok (D_22 a b)) _).mono ?_
  rintro e w10 ⟨rfl, q10⟩
  have p10 := bt p9 q10
  clear q10 p9
  go_wp2_with fail
  refine (does_is 2 a b d true (by omega) (by omega) a0 a1 b0 b1 (by rw [E2.out]) (by rw [E2.out]; rfl) _).mono ?_
  rintro e w11 ⟨rfl, q11⟩
  have p11 := bt p10 q11
  clear q11 p10
  go_wp2_with fail
  refine (does_is 9 a b c true (by omega) (by omega) a0 a1 b0 b1 (by rw [E9.out]) (by rw [E9.out]; rfl) _).mono ?_
  rintro e w12 ⟨rfl, q12⟩
  have p12 := bt p11 q12
  clear q12 p11
  have HT2 := Lib.hid (Joins.tab_stays gTab HT.out p12 (Nat.le_refl _))
  go_wp2_with fail
  refine (Int_any d d0 d1 _).mono ?_
  rintro e w13 ⟨rfl, rfl⟩
  go_wp2_with fail
  refine (alive_any _ HT2.out).mono ?_
  rintro e w14 ⟨rfl, q14⟩
  have pz := bt p12 q14
  go_wp2_with fail
  go_ret
  exact ⟨rfl, pz⟩

theorem asks_baout (a b : Int) (a0 : 0 ≤ a) (a1 : a ≤ 65535) (b0 : 0 ≤ b) (b1 : b ≤ 65535) (h : b < 32768) (h1 : 32768 ≤ a) (h2 : a - 65536 - b < -32768) (w : World) (htab : Lib.TabIs Tryd.prog w "internal/strconv.uint64pow10" .u64 Lib.pow10Tab) :
    Calls Tryd.prog 6 #[.int .u16 a, .int .u16 b] w fun e w' => e = .returned (.bool true) ∧ Below w.heap.size w w' := by
  have HT := Lib.hid htab
  clear htab
  have ga : sg a = a - 65536 := sg_hi (by omega)
  have gb : sg b = b := sg_lo (by omega)
  have v13 := Lib.hid (ask_is0 (D_13 a b) (by omega))
  have v14 := Lib.hid (ask_is1 (D_14 a b) (by omega))
  have v15 := Lib.hid (ask_is1 (D_15 a b) (by omega))
  have v16 := Lib.hid (ask_is1 (D_16 a b) (by omega))
  have v17 := Lib.hid (ask_is0 (D_17 a b) (by omega))
  have v18 := Lib.hid (ask_is0 (D_18 a b) (by omega))
  have v19 := Lib.hid (ask_is0 (D_19 a b) (by omega))
  have v20 := Lib.hid (ask_is0 (D_20 a b) (by omega))
  have v21 := Lib.hid (ask_is1 (D_21 a b) (by omega))
  have v22 := Lib.hid (ask_is1 (D_22 a b) (by omega))
  have e2 : D 2 a b = (0, 1) := by rw [D_2, fS_out (by omega)]
  have E2 := Lib.hid e2
  clear e2
  have e9 : D 9 a b = (a - b, 0) := by rw [D_9, fU_in (by omega) (by omega)]
  obtain ⟨c, hc⟩ : ∃ c, c = a - b := ⟨_, rfl⟩
  rw [← hc] at e9
  have E9 := Lib.hid e9
  clear e9 hc
  clear ga gb
  have nab : (a == b) = false := by rw [beq_eq_false_iff_ne]; omega
  go_enter Tryd.func6, Tryd.ntmps6
  go_wp2_with fail
  refine (does_is 13 a b 0 true (by omega) (by omega) a0 a1 b0 b1 v13.out (ask_ok (D_13 a b)) _).mono ?_
  rintro e w1 ⟨rfl, q1⟩
  have p1 := q1
  clear q1
  go_wp2_with fail
  refine (does_is 14 a b 1 true (by omega) (by omega) a0 a1 b0 b1 v14.out (ask_ok (D_14 a b)) _).mono ?_
  rintro e w2 ⟨rfl, q2⟩
  have p2 := bt p1 q2
  clear q2 p1
  go_wp2_with fail
  refine (does_is 15 a b 1 true (by omega) (by omega) a0 a1 b0 b1 v15.out (ask_ok (D_15 a b)) _).mono ?_
  rintro e w3 ⟨rfl, q3⟩
  have p3 := bt p2 q3
  clear q3 p2
  go_wp2_with fail
  refine (does_is 16 a b 1 true (by omega) (by omega) a0 a1 b0 b1 v16.out (ask_ok (D_16 a b)) _).mono ?_
  rintro e w4 ⟨rfl, q4⟩
  have p4 := bt p3 q4
  clear q4 p3
  go_wp2_with fail
  refine (does_is 17 a b 0 true (by omega) (by omega) a0 a1 b0 b1 v17.out (ask_ok (D_17 a b)) _).mono ?_
  rintro e w5 ⟨rfl, q5⟩
  have p5 := bt p4 q5
  clear q5 p4
  go_wp2_with fail
  refine (does_is 18 a b 0 true (by omega) (by omega) a0 a1 b0 b1 v18.out (ask_ok (D_18 a b)) _).mono ?_
  rintro e w6 ⟨rfl, q6⟩
  have p6 := bt p5 q6
  clear q6 p5
  go_wp2_with fail
  refine (does_is 19 a b 0 true (by omega) (by omega) a0 a1 b0 b1 v19.out (ask_ok (D_19 a b)) _).mono ?_
  rintro e w7 ⟨rfl, q7⟩
  have p7 := bt p6 q7
  clear q7 p6
  go_wp2_with fail
  refine (does_is 20 a b 0 true (by omega) (by omega) a0 a1 b0 b1 v20.out (ask_ok (D_20 a b)) _).mono ?_
  rintro e w8 ⟨rfl, q8⟩
  have p8 := bt p7 q8
  clear q8 p7
  go_wp2_with fail
  refine (does_is 21 a b 1 true (by omega) (by omega) a0 a1 b0 b1 v21.out (ask_ok (D_21 a b)) _).mono ?_
  rintro e w9 ⟨rfl, q9⟩
  have p9 := bt p8 q9
  clear q9 p8
  go_wp2_with fail
  refine (does_is 22 a b 1 true (by omega) (by omega) a0 a1 b0 b1 v22.out (ask_ok (D_22 a b)) _).mono ?_
  rintro e w10 ⟨rfl, q10⟩
  have p10 := bt p9 q10
  clear q10 p9
  go_wp2_with fail
  refine (does_is 2 a b 0 false (by omega) (by omega) a0 a1 b0 b1 (by rw [E2.out]) (by rw [E2.out]; rfl) _).mono ?_
  rintro e w11 ⟨rfl, q11⟩
  have p11 := bt p10 q11
  clear q11 p10
  go_wp2_with fail
  refine (does_is 9 a b c true (by omega) (by omega) a0 a1 b0 b1 (by rw [E9.out]) (by rw [E9.out]; rfl) _).mono ?_
  rintro e w12 ⟨rfl, q12⟩
  have p12 := bt p11 q12
  clear q12 p11
  have HT2 := Lib.hid (Joins.tab_stays gTab HT.out p12 (Nat.le_refl _))
  go_wp2_with fail
  refine (alive_any _ HT2.out).mono ?_
  rintro e w14 ⟨rfl, q14⟩
  have pz := bt p12 q14
  go_wp2_with fail
  go_ret
  exact ⟨rfl, pz⟩
end Go.Proofs.YtgghdllbegkioaaDoor
