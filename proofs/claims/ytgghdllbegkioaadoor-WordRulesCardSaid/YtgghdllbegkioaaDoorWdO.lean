/- WordRules, walked: sums, products, differences, divisions. -/
import Derived.Test.YtgghdllbegkioaaDoorWdN
import Derived.LoopTactic
namespace Go.Proofs.YtgghdllbegkioaaDoor
open Go.RowKit
set_option maxHeartbeats 8000000
set_option maxRecDepth 100000
set_option linter.unusedVariables false

theorem Int_is (a x : Int) (h0 : 0 ≤ a) (h1 : a ≤ 65535) (h : sg a = x) (w : World) :
    Calls Tryd.prog 16 #[.int .u16 a] w fun e w' => e = .returned (.int .i64 x) ∧ w = w' := by
  have h2 := Int_any a h0 h1 w
  rw [h] at h2
  exact h2

theorem rules_zero (a b : Int) (a0 : 0 ≤ a) (a1 : a ≤ 65535) (b0 : 0 ≤ b) (b1 : b ≤ 65535) (hz : b = 0) (w : World) (htab : Lib.TabIs Tryd.prog w "internal/strconv.uint64pow10" .u64 Lib.pow10Tab) :
    Calls Tryd.prog 5 #[.int .u16 a, .int .u16 b] w fun e w' => e = .returned (.bool true) ∧ Below w.heap.size w w' := by
  have HT := Lib.hid htab
  clear htab
  subst hz
  have his0 : ((D 1 a 0).2 == 0) = true := by
    obtain ⟨h0, h1⟩ := sg_bd a a0 a1
    rw [D_1, show sg a + sg 0 = sg a by rw [sg_lo (show (0 : Int) < 32768 by omega)]; omega, fS_in h0 h1]; rfl
  have his1 : ((D 8 a 0).2 == 0) = true := by rw [D_8, fU_in (by omega) (by omega)]; rfl
  have HIS0 : Hid (((D 1 a 0).2 == 0) = true) := Lib.hid his0
  have HISb0 : Hid (((D 1 0 a).2 == 0) = true) := Lib.hid (by rw [c1 a 0]; exact his0)
  have sbd0 := bd1 a 0
  have hsub0 := (sub1 (by omega) (by omega) (by omega) (by omega) HIS0.out)
  obtain ⟨s0, hs0⟩ : ∃ z, (D 1 a 0).1 = z := ⟨_, rfl⟩
  have HSb0 : Hid ((D 1 0 a).1 = s0) := Lib.hid (by rw [c1 a 0]; exact hs0)
  rw [hs0] at hsub0
  have HSUB0 := Lib.hid hsub0
  clear hsub0
  rw [hs0] at sbd0
  obtain ⟨s00, s10⟩ := sbd0
  have HS0 := Lib.hid hs0
  clear hs0 his0
  obtain ⟨p0, hp0⟩ : ∃ z, (D 3 a 0).1 = z := ⟨_, rfl⟩
  have HPb0 : Hid ((D 3 0 a).1 = p0) := Lib.hid (by rw [c3 a 0]; exact hp0)
  have HP0 := Lib.hid hp0
  clear hp0
  obtain ⟨ps0, hps0⟩ : ∃ z : Bool, ((D 3 a 0).2 == 0) = z := ⟨_, rfl⟩
  have HPSb0 : Hid (((D 3 0 a).2 == 0) = ps0) := Lib.hid (by rw [c3 a 0]; exact hps0)
  have HPS0 := Lib.hid hps0
  clear hps0
  have HX0 : Hid (D 4 a 0 = (0, 4)) := Lib.hid (by rw [D_4, if_pos rfl])
  have HY0 : Hid (D 5 a 0 = (0, 4)) := Lib.hid (by rw [D_5, if_pos rfl])
  have HIS1 : Hid (((D 8 a 0).2 == 0) = true) := Lib.hid his1
  have HISb1 : Hid (((D 8 0 a).2 == 0) = true) := Lib.hid (by rw [c8 a 0]; exact his1)
  have sbd1 := bd8 a 0
  have hsub1 := (sub8 (by omega) (by omega) HIS1.out)
  obtain ⟨s1, hs1⟩ : ∃ z, (D 8 a 0).1 = z := ⟨_, rfl⟩
  have HSb1 : Hid ((D 8 0 a).1 = s1) := Lib.hid (by rw [c8 a 0]; exact hs1)
  rw [hs1] at hsub1
  have HSUB1 := Lib.hid hsub1
  clear hsub1
  rw [hs1] at sbd1
  obtain ⟨s01, s11⟩ := sbd1
  have HS1 := Lib.hid hs1
  clear hs1 his1
  obtain ⟨p1, hp1⟩ : ∃ z, (D 10 a 0).1 = z := ⟨_, rfl⟩
  have HPb1 : Hid ((D 10 0 a).1 = p1) := Lib.hid (by rw [c10 a 0]; exact hp1)
  have HP1 := Lib.hid hp1
  clear hp1
  obtain ⟨ps1, hps1⟩ : ∃ z : Bool, ((D 10 a 0).2 == 0) = z := ⟨_, rfl⟩
  have HPSb1 : Hid (((D 10 0 a).2 == 0) = ps1) := Lib.hid (by rw [c10 a 0]; exact hps1)
  have HPS1 := Lib.hid hps1
  clear hps1
  have HX1 : Hid (D 11 a 0 = (0, 4)) := Lib.hid (by rw [D_11, if_pos rfl])
  have HY1 : Hid (D 12 a 0 = (0, 4)) := Lib.hid (by rw [D_12, if_pos rfl])
  go_enter Tryd.func5, Tryd.ntmps5
  go_wp2_with fail
  go_loopw [5] (fun k wr => ∃ j : Nat, j ≤ 2 ∧ k = .int .u8 j ∧ Below w.heap.size w wr) (fun k _ => (2 - intOf k).toNat)
  case atStart => exact ⟨0, by omega, rfl, Below.refl _ _⟩
  case round =>
    obtain ⟨j, hj, rfl, hb⟩ := hrel
    have hj3 : j = 0 ∨ j = 1 ∨ j = 2 := by omega
    rcases hj3 with rfl | rfl | rfl
    · go_wp2_with fail
      refine (does_is 1 a 0 s0 true (by omega) (by omega) (by omega) (by omega) (by omega) (by omega) HS0.out HIS0.out _).mono ?_
      rintro e w1 ⟨rfl, s1⟩
      have t1 := bt hb s1
      clear s1
      go_wp2_with fail
      refine (does_is 1 0 a s0 true (by omega) (by omega) (by omega) (by omega) (by omega) (by omega) HSb0.out HISb0.out _).mono ?_
      rintro e w2 ⟨rfl, s2⟩
      have t2 := bt t1 s2
      clear s2 t1
      go_wp2_with fail
      refine (does_is 3 a 0 p0 ps0 (by omega) (by omega) (by omega) (by omega) (by omega) (by omega) HP0.out HPS0.out _).mono ?_
      rintro e w3 ⟨rfl, s3⟩
      have t3 := bt t2 s3
      clear s3 t2
      go_wp2_with fail
      refine (does_is 3 0 a p0 ps0 (by omega) (by omega) (by omega) (by omega) (by omega) (by omega) HPb0.out HPSb0.out _).mono ?_
      rintro e w4 ⟨rfl, s4⟩
      have t4 := bt t3 s4
      clear s4 t3
      go_wp2_with fail
      refine (does_is 2 s0 0 a true (by omega) (by omega) (by omega) (by omega) (by omega) (by omega) (by rw [HSUB0.out]) (by rw [HSUB0.out]; rfl) _).mono ?_
      rintro e w5 ⟨rfl, s5⟩
      have t5 := bt t4 s5
      clear s5 t4
      go_wp2_with fail
      refine (does_is 4 a 0 0 false (by omega) (by omega) (by omega) (by omega) (by omega) (by omega) (by rw [HX0.out]) (by rw [HX0.out]; rfl) _).mono ?_
      rintro e w6 ⟨rfl, s6⟩
      have t6 := bt t5 s6
      clear s6 t5
      go_wp2_with fail
      refine (does_is 5 a 0 0 false (by omega) (by omega) (by omega) (by omega) (by omega) (by omega) (by rw [HY0.out]) (by rw [HY0.out]; rfl) _).mono ?_
      rintro e w7 ⟨rfl, s7⟩
      have t7 := bt t6 s7
      clear s7 t6
      go_wp2_with fail
      go_roundw
      case rel => exact ⟨1, by omega, rfl, t7⟩
      case measure => simp [intOf]
    · go_wp2_with fail
      refine (does_is 8 a 0 s1 true (by omega) (by omega) (by omega) (by omega) (by omega) (by omega) HS1.out HIS1.out _).mono ?_
      rintro e w1 ⟨rfl, s1⟩
      have t1 := bt hb s1
      clear s1
      go_wp2_with fail
      refine (does_is 8 0 a s1 true (by omega) (by omega) (by omega) (by omega) (by omega) (by omega) HSb1.out HISb1.out _).mono ?_
      rintro e w2 ⟨rfl, s2⟩
      have t2 := bt t1 s2
      clear s2 t1
      go_wp2_with fail
      refine (does_is 10 a 0 p1 ps1 (by omega) (by omega) (by omega) (by omega) (by omega) (by omega) HP1.out HPS1.out _).mono ?_
      rintro e w3 ⟨rfl, s3⟩
      have t3 := bt t2 s3
      clear s3 t2
      go_wp2_with fail
      refine (does_is 10 0 a p1 ps1 (by omega) (by omega) (by omega) (by omega) (by omega) (by omega) HPb1.out HPSb1.out _).mono ?_
      rintro e w4 ⟨rfl, s4⟩
      have t4 := bt t3 s4
      clear s4 t3
      go_wp2_with fail
      refine (does_is 9 s1 0 a true (by omega) (by omega) (by omega) (by omega) (by omega) (by omega) (by rw [HSUB1.out]) (by rw [HSUB1.out]; rfl) _).mono ?_
      rintro e w5 ⟨rfl, s5⟩
      have t5 := bt t4 s5
      clear s5 t4
      go_wp2_with fail
      refine (does_is 11 a 0 0 false (by omega) (by omega) (by omega) (by omega) (by omega) (by omega) (by rw [HX1.out]) (by rw [HX1.out]; rfl) _).mono ?_
      rintro e w6 ⟨rfl, s6⟩
      have t6 := bt t5 s6
      clear s6 t5
      go_wp2_with fail
      refine (does_is 12 a 0 0 false (by omega) (by omega) (by omega) (by omega) (by omega) (by omega) (by rw [HY1.out]) (by rw [HY1.out]; rfl) _).mono ?_
      rintro e w7 ⟨rfl, s7⟩
      have t7 := bt t6 s7
      clear s7 t6
      go_wp2_with fail
      go_roundw
      case rel => exact ⟨2, by omega, rfl, t7⟩
      case measure => simp [intOf]
    · go_wp2_with fail
      have HT2 := Lib.hid (Joins.tab_stays gTab HT.out hb (Nat.le_refl _))
      refine (alive_any _ HT2.out).mono ?_
      rintro e wz ⟨rfl, sz⟩
      have tz := bt hb sz
      go_wp2_with fail
      go_ret
      exact ⟨rfl, tz⟩

theorem rules_special (a b : Int) (a0 : 0 ≤ a) (a1 : a ≤ 65535) (b0 : 0 ≤ b) (b1 : b ≤ 65535) (ha : a = 32768) (hb : b = 65535) (w : World) (htab : Lib.TabIs Tryd.prog w "internal/strconv.uint64pow10" .u64 Lib.pow10Tab) :
    Calls Tryd.prog 5 #[.int .u16 a, .int .u16 b] w fun e w' => e = .returned (.bool true) ∧ Below w.heap.size w w' := by
  have HT := Lib.hid htab
  clear htab
  subst ha hb
  have his0 : ((D 1 32768 65535).2 == 0) = false := by decide
  have his1 : ((D 8 32768 65535).2 == 0) = false := by decide
  have HIS0 : Hid (((D 1 32768 65535).2 == 0) = false) := Lib.hid his0
  have HISb0 : Hid (((D 1 65535 32768).2 == 0) = false) := Lib.hid (by rw [c1 32768 65535]; exact his0)
  have sbd0 := bd1 32768 65535
  obtain ⟨s0, hs0⟩ : ∃ z, (D 1 32768 65535).1 = z := ⟨_, rfl⟩
  have HSb0 : Hid ((D 1 65535 32768).1 = s0) := Lib.hid (by rw [c1 32768 65535]; exact hs0)
  rw [hs0] at sbd0
  obtain ⟨s00, s10⟩ := sbd0
  have HS0 := Lib.hid hs0
  clear hs0 his0
  obtain ⟨p0, hp0⟩ : ∃ z, (D 3 32768 65535).1 = z := ⟨_, rfl⟩
  have HPb0 : Hid ((D 3 65535 32768).1 = p0) := Lib.hid (by rw [c3 32768 65535]; exact hp0)
  have HP0 := Lib.hid hp0
  clear hp0
  obtain ⟨ps0, hps0⟩ : ∃ z : Bool, ((D 3 32768 65535).2 == 0) = z := ⟨_, rfl⟩
  have HPSb0 : Hid (((D 3 65535 32768).2 == 0) = ps0) := Lib.hid (by rw [c3 32768 65535]; exact hps0)
  have HPS0 := Lib.hid hps0
  clear hps0
  have HX0 : Hid (D 4 32768 65535 = (0, 1)) := Lib.hid (by decide)
  have HY0 : Hid (D 5 32768 65535 = (0, 0)) := Lib.hid (by decide)
  have HIS1 : Hid (((D 8 32768 65535).2 == 0) = false) := Lib.hid his1
  have HISb1 : Hid (((D 8 65535 32768).2 == 0) = false) := Lib.hid (by rw [c8 32768 65535]; exact his1)
  have sbd1 := bd8 32768 65535
  obtain ⟨s1, hs1⟩ : ∃ z, (D 8 32768 65535).1 = z := ⟨_, rfl⟩
  have HSb1 : Hid ((D 8 65535 32768).1 = s1) := Lib.hid (by rw [c8 32768 65535]; exact hs1)
  rw [hs1] at sbd1
  obtain ⟨s01, s11⟩ := sbd1
  have HS1 := Lib.hid hs1
  clear hs1 his1
  obtain ⟨p1, hp1⟩ : ∃ z, (D 10 32768 65535).1 = z := ⟨_, rfl⟩
  have HPb1 : Hid ((D 10 65535 32768).1 = p1) := Lib.hid (by rw [c10 32768 65535]; exact hp1)
  have HP1 := Lib.hid hp1
  clear hp1
  obtain ⟨ps1, hps1⟩ : ∃ z : Bool, ((D 10 32768 65535).2 == 0) = z := ⟨_, rfl⟩
  have HPSb1 : Hid (((D 10 65535 32768).2 == 0) = ps1) := Lib.hid (by rw [c10 32768 65535]; exact hps1)
  have HPS1 := Lib.hid hps1
  clear hps1
  have HX1 : Hid (D 11 32768 65535 = (0, 0)) := Lib.hid (by decide)
  have HY1 : Hid (D 12 32768 65535 = (32768, 0)) := Lib.hid (by decide)
  have HM1 : Hid (D 10 0 65535 = (0, 0)) := Lib.hid (by decide)
  have HN1 : Hid (D 8 0 32768 = (32768, 0)) := Lib.hid (by decide)
  go_enter Tryd.func5, Tryd.ntmps5
  go_wp2_with fail
  go_loopw [5] (fun k wr => ∃ j : Nat, j ≤ 2 ∧ k = .int .u8 j ∧ Below w.heap.size w wr) (fun k _ => (2 - intOf k).toNat)
  case atStart => exact ⟨0, by omega, rfl, Below.refl _ _⟩
  case round =>
    obtain ⟨j, hj, rfl, hb⟩ := hrel
    have hj3 : j = 0 ∨ j = 1 ∨ j = 2 := by omega
    rcases hj3 with rfl | rfl | rfl
    · go_wp2_with fail
      refine (does_is 1 32768 65535 s0 false (by omega) (by omega) (by omega) (by omega) (by omega) (by omega) HS0.out HIS0.out _).mono ?_
      rintro e w1 ⟨rfl, s1⟩
      have t1 := bt hb s1
      clear s1
      go_wp2_with fail
      refine (does_is 1 65535 32768 s0 false (by omega) (by omega) (by omega) (by omega) (by omega) (by omega) HSb0.out HISb0.out _).mono ?_
      rintro e w2 ⟨rfl, s2⟩
      have t2 := bt t1 s2
      clear s2 t1
      go_wp2_with fail
      refine (does_is 3 32768 65535 p0 ps0 (by omega) (by omega) (by omega) (by omega) (by omega) (by omega) HP0.out HPS0.out _).mono ?_
      rintro e w3 ⟨rfl, s3⟩
      have t3 := bt t2 s3
      clear s3 t2
      go_wp2_with fail
      refine (does_is 3 65535 32768 p0 ps0 (by omega) (by omega) (by omega) (by omega) (by omega) (by omega) HPb0.out HPSb0.out _).mono ?_
      rintro e w4 ⟨rfl, s4⟩
      have t4 := bt t3 s4
      clear s4 t3
      go_wp2_with fail
      refine (does_is 4 32768 65535 0 false (by omega) (by omega) (by omega) (by omega) (by omega) (by omega) (by rw [HX0.out]) (by rw [HX0.out]; rfl) _).mono ?_
      rintro e w5 ⟨rfl, s5⟩
      have t5 := bt t4 s5
      clear s5 t4
      go_wp2_with fail
      refine (does_is 5 32768 65535 0 true (by omega) (by omega) (by omega) (by omega) (by omega) (by omega) (by rw [HY0.out]) (by rw [HY0.out]; rfl) _).mono ?_
      rintro e w6 ⟨rfl, s6⟩
      have t6 := bt t5 s6
      clear s6 t5
      go_wp2_with fail
      refine (Int_is 0 0 (by omega) (by omega) (by decide) _).mono ?_
      rintro e wa ⟨rfl, rfl⟩
      go_wp2_with fail
      refine (Int_is 65535 (-1) (by omega) (by omega) (by decide) _).mono ?_
      rintro e wb ⟨rfl, rfl⟩
      go_wp2_with fail
      go_roundw
      case rel => exact ⟨1, by omega, rfl, t6⟩
      case measure => simp [intOf]
    · go_wp2_with fail
      refine (does_is 8 32768 65535 s1 false (by omega) (by omega) (by omega) (by omega) (by omega) (by omega) HS1.out HIS1.out _).mono ?_
      rintro e w1 ⟨rfl, s1⟩
      have t1 := bt hb s1
      clear s1
      go_wp2_with fail
      refine (does_is 8 65535 32768 s1 false (by omega) (by omega) (by omega) (by omega) (by omega) (by omega) HSb1.out HISb1.out _).mono ?_
      rintro e w2 ⟨rfl, s2⟩
      have t2 := bt t1 s2
      clear s2 t1
      go_wp2_with fail
      refine (does_is 10 32768 65535 p1 ps1 (by omega) (by omega) (by omega) (by omega) (by omega) (by omega) HP1.out HPS1.out _).mono ?_
      rintro e w3 ⟨rfl, s3⟩
      have t3 := bt t2 s3
      clear s3 t2
      go_wp2_with fail
      refine (does_is 10 65535 32768 p1 ps1 (by omega) (by omega) (by omega) (by omega) (by omega) (by omega) HPb1.out HPSb1.out _).mono ?_
      rintro e w4 ⟨rfl, s4⟩
      have t4 := bt t3 s4
      clear s4 t3
      go_wp2_with fail
      refine (does_is 11 32768 65535 0 true (by omega) (by omega) (by omega) (by omega) (by omega) (by omega) (by rw [HX1.out]) (by rw [HX1.out]; rfl) _).mono ?_
      rintro e w5 ⟨rfl, s5⟩
      have t5 := bt t4 s5
      clear s5 t4
      go_wp2_with fail
      refine (does_is 12 32768 65535 32768 true (by omega) (by omega) (by omega) (by omega) (by omega) (by omega) (by rw [HY1.out]) (by rw [HY1.out]; rfl) _).mono ?_
      rintro e w6 ⟨rfl, s6⟩
      have t6 := bt t5 s6
      clear s6 t5
      go_wp2_with fail
      refine (does_is 10 0 65535 0 true (by omega) (by omega) (by omega) (by omega) (by omega) (by omega) (by rw [HM1.out]) (by rw [HM1.out]; rfl) _).mono ?_
      rintro e w7 ⟨rfl, s7⟩
      have t7 := bt t6 s7
      clear s7 t6
      go_wp2_with fail
      refine (does_is 8 0 32768 32768 true (by omega) (by omega) (by omega) (by omega) (by omega) (by omega) (by rw [HN1.out]) (by rw [HN1.out]; rfl) _).mono ?_
      rintro e w8 ⟨rfl, s8⟩
      have t8 := bt t7 s8
      clear s8 t7
      go_wp2_with fail
      go_roundw
      case rel => exact ⟨2, by omega, rfl, t8⟩
      case measure => simp [intOf]
    · go_wp2_with fail
      have HT2 := Lib.hid (Joins.tab_stays gTab HT.out hb (Nat.le_refl _))
      refine (alive_any _ HT2.out).mono ?_
      rintro e wz ⟨rfl, sz⟩
      have tz := bt hb sz
      go_wp2_with fail
      go_ret
      exact ⟨rfl, tz⟩

theorem rules_tt (a b : Int) (a0 : 0 ≤ a) (a1 : a ≤ 65535) (b0 : 0 ≤ b) (b1 : b ≤ 65535) (hz : b ≠ 0) (hsp : ¬ (a = 32768 ∧ b = 65535)) (his0 : ((D 1 a b).2 == 0) = true) (his1 : ((D 8 a b).2 == 0) = true) (w : World) (htab : Lib.TabIs Tryd.prog w "internal/strconv.uint64pow10" .u64 Lib.pow10Tab) :
    Calls Tryd.prog 5 #[.int .u16 a, .int .u16 b] w fun e w' => e = .returned (.bool true) ∧ Below w.heap.size w w' := by
  have HT := Lib.hid htab
  clear htab
  have HIS0 : Hid (((D 1 a b).2 == 0) = true) := Lib.hid his0
  have HISb0 : Hid (((D 1 b a).2 == 0) = true) := Lib.hid (by rw [c1 a b]; exact his0)
  have sbd0 := bd1 a b
  have hsub0 := (sub1 (by omega) (by omega) (by omega) (by omega) HIS0.out)
  obtain ⟨s0, hs0⟩ : ∃ z, (D 1 a b).1 = z := ⟨_, rfl⟩
  have HSb0 : Hid ((D 1 b a).1 = s0) := Lib.hid (by rw [c1 a b]; exact hs0)
  rw [hs0] at hsub0
  have HSUB0 := Lib.hid hsub0
  clear hsub0
  rw [hs0] at sbd0
  obtain ⟨s00, s10⟩ := sbd0
  have HS0 := Lib.hid hs0
  clear hs0 his0
  obtain ⟨p0, hp0⟩ : ∃ z, (D 3 a b).1 = z := ⟨_, rfl⟩
  have HPb0 : Hid ((D 3 b a).1 = p0) := Lib.hid (by rw [c3 a b]; exact hp0)
  have HP0 := Lib.hid hp0
  clear hp0
  obtain ⟨ps0, hps0⟩ : ∃ z : Bool, ((D 3 a b).2 == 0) = z := ⟨_, rfl⟩
  have HPSb0 : Hid (((D 3 b a).2 == 0) = ps0) := Lib.hid (by rw [c3 a b]; exact hps0)
  have HPS0 := Lib.hid hps0
  clear hps0
  obtain ⟨d1, d2, d3, d4, d5⟩ := div_s a0 a1 b0 b1 hz hsp
  obtain ⟨e1, e2, e3⟩ := rems_s a0 a1 b0 b1 hz
  obtain ⟨x0, hx0⟩ : ∃ z, (D 4 a b).1 = z := ⟨_, rfl⟩
  obtain ⟨y0, hy0⟩ : ∃ z, (D 5 a b).1 = z := ⟨_, rfl⟩
  rw [hx0] at d2 d3 d4 d5
  rw [hy0] at d3 e2 e3
  obtain ⟨m0, hm0⟩ : ∃ z, (D 3 x0 b).1 = z := ⟨_, rfl⟩
  rw [hm0] at d3 d5
  have e4 : ¬ (max (sg b) (-sg b) ≤ max (sg y0) (-sg y0)) := by omega
  clear e3
  obtain ⟨x00, x01⟩ := d4
  obtain ⟨y00, y01⟩ := e2
  obtain ⟨m00, m01⟩ := d5
  obtain ⟨sb0, sb1⟩ := sg_bd b b0 b1
  obtain ⟨sy0, sy1⟩ := sg_bd y0 y00 y01
  have HX0 := Lib.hid hx0
  have HXS0 := Lib.hid d1
  have HY0 := Lib.hid hy0
  have HYS0 := Lib.hid e1
  have HM0 := Lib.hid hm0
  have HMS0 := Lib.hid d2
  have HN0 := Lib.hid d3
  clear hx0 d1 hy0 e1 hm0 d2 d3
  have HIS1 : Hid (((D 8 a b).2 == 0) = true) := Lib.hid his1
  have HISb1 : Hid (((D 8 b a).2 == 0) = true) := Lib.hid (by rw [c8 a b]; exact his1)
  have sbd1 := bd8 a b
  have hsub1 := (sub8 (by omega) (by omega) HIS1.out)
  obtain ⟨s1, hs1⟩ : ∃ z, (D 8 a b).1 = z := ⟨_, rfl⟩
  have HSb1 : Hid ((D 8 b a).1 = s1) := Lib.hid (by rw [c8 a b]; exact hs1)
  rw [hs1] at hsub1
  have HSUB1 := Lib.hid hsub1
  clear hsub1
  rw [hs1] at sbd1
  obtain ⟨s01, s11⟩ := sbd1
  have HS1 := Lib.hid hs1
  clear hs1 his1
  obtain ⟨p1, hp1⟩ : ∃ z, (D 10 a b).1 = z := ⟨_, rfl⟩
  have HPb1 : Hid ((D 10 b a).1 = p1) := Lib.hid (by rw [c10 a b]; exact hp1)
  have HP1 := Lib.hid hp1
  clear hp1
  obtain ⟨ps1, hps1⟩ : ∃ z : Bool, ((D 10 a b).2 == 0) = z := ⟨_, rfl⟩
  have HPSb1 : Hid (((D 10 b a).2 == 0) = ps1) := Lib.hid (by rw [c10 a b]; exact hps1)
  have HPS1 := Lib.hid hps1
  clear hps1
  obtain ⟨f1, f2, f3, f4, f5, f6, f7⟩ := div_u a0 a1 b0 b1 hz
  obtain ⟨x1, hx1⟩ : ∃ z, a / b = z := ⟨_, rfl⟩
  obtain ⟨y1, hy1⟩ : ∃ z, a % b = z := ⟨_, rfl⟩
  rw [hx1] at f1 f3 f4 f5 f6
  rw [hy1] at f2 f4 f7
  obtain ⟨m1, hm1⟩ : ∃ z, x1 * b = z := ⟨_, rfl⟩
  rw [hm1] at f3 f4 f6
  obtain ⟨x10, x11⟩ := f5
  obtain ⟨m10, m11⟩ := f6
  obtain ⟨y10, y11⟩ := f7
  have HX1 := Lib.hid f1
  have HY1 := Lib.hid f2
  have HM1 := Lib.hid f3
  have HN1 := Lib.hid f4
  clear f1 f2 f3 f4 hx1 hy1 hm1
  have nz : (b == 0) = false := beq_eq_false_iff_ne.2 hz
  clear hz hsp
  go_enter Tryd.func5, Tryd.ntmps5
  go_wp2_with fail
  go_loopw [5] (fun k wr => ∃ j : Nat, j ≤ 2 ∧ k = .int .u8 j ∧ Below w.heap.size w wr) (fun k _ => (2 - intOf k).toNat)
  case atStart => exact ⟨0, by omega, rfl, Below.refl _ _⟩
  case round =>
    obtain ⟨j, hj, rfl, hb⟩ := hrel
    have hj3 : j = 0 ∨ j = 1 ∨ j = 2 := by omega
    rcases hj3 with rfl | rfl | rfl
    · go_wp2_with fail
      refine (does_is 1 a b s0 true (by omega) (by omega) (by omega) (by omega) (by omega) (by omega) HS0.out HIS0.out _).mono ?_
      rintro e w1 ⟨rfl, s1⟩
      have t1 := bt hb s1
      clear s1
      go_wp2_with fail
      refine (does_is 1 b a s0 true (by omega) (by omega) (by omega) (by omega) (by omega) (by omega) HSb0.out HISb0.out _).mono ?_
      rintro e w2 ⟨rfl, s2⟩
      have t2 := bt t1 s2
      clear s2 t1
      go_wp2_with fail
      refine (does_is 3 a b p0 ps0 (by omega) (by omega) (by omega) (by omega) (by omega) (by omega) HP0.out HPS0.out _).mono ?_
      rintro e w3 ⟨rfl, s3⟩
      have t3 := bt t2 s3
      clear s3 t2
      go_wp2_with fail
      refine (does_is 3 b a p0 ps0 (by omega) (by omega) (by omega) (by omega) (by omega) (by omega) HPb0.out HPSb0.out _).mono ?_
      rintro e w4 ⟨rfl, s4⟩
      have t4 := bt t3 s4
      clear s4 t3
      go_wp2_with fail
      refine (does_is 2 s0 b a true (by omega) (by omega) (by omega) (by omega) (by omega) (by omega) (by rw [HSUB0.out]) (by rw [HSUB0.out]; rfl) _).mono ?_
      rintro e w5 ⟨rfl, s5⟩
      have t5 := bt t4 s5
      clear s5 t4
      go_wp2_with fail
      refine (does_is 4 a b x0 true (by omega) (by omega) (by omega) (by omega) (by omega) (by omega) HX0.out HXS0.out _).mono ?_
      rintro e w6 ⟨rfl, s6⟩
      have t6 := bt t5 s6
      clear s6 t5
      go_wp2_with fail
      refine (does_is 5 a b y0 true (by omega) (by omega) (by omega) (by omega) (by omega) (by omega) HY0.out HYS0.out _).mono ?_
      rintro e w7 ⟨rfl, s7⟩
      have t7 := bt t6 s7
      clear s7 t6
      go_wp2_with fail
      refine (does_is 3 x0 b m0 true (by omega) (by omega) (by omega) (by omega) (by omega) (by omega) HM0.out HMS0.out _).mono ?_
      rintro e w8 ⟨rfl, s8⟩
      have t8 := bt t7 s8
      clear s8 t7
      go_wp2_with fail
      refine (does_is 1 m0 y0 a true (by omega) (by omega) (by omega) (by omega) (by omega) (by omega) (by rw [HN0.out]) (by rw [HN0.out]; rfl) _).mono ?_
      rintro e w9 ⟨rfl, s9⟩
      have t9 := bt t8 s9
      clear s9 t8
      go_wp2_with fail
      refine (Int_any y0 (by omega) (by omega) _).mono ?_
      rintro e wa ⟨rfl, rfl⟩
      go_wp2_with fail
      refine (Int_any b (by omega) (by omega) _).mono ?_
      rintro e wb ⟨rfl, rfl⟩
      go_wp2_with fail
      go_roundw
      case rel => exact ⟨1, by omega, rfl, t9⟩
      case measure => simp [intOf]
    · go_wp2_with fail
      refine (does_is 8 a b s1 true (by omega) (by omega) (by omega) (by omega) (by omega) (by omega) HS1.out HIS1.out _).mono ?_
      rintro e w1 ⟨rfl, s1⟩
      have t1 := bt hb s1
      clear s1
      go_wp2_with fail
      refine (does_is 8 b a s1 true (by omega) (by omega) (by omega) (by omega) (by omega) (by omega) HSb1.out HISb1.out _).mono ?_
      rintro e w2 ⟨rfl, s2⟩
      have t2 := bt t1 s2
      clear s2 t1
      go_wp2_with fail
      refine (does_is 10 a b p1 ps1 (by omega) (by omega) (by omega) (by omega) (by omega) (by omega) HP1.out HPS1.out _).mono ?_
      rintro e w3 ⟨rfl, s3⟩
      have t3 := bt t2 s3
      clear s3 t2
      go_wp2_with fail
      refine (does_is 10 b a p1 ps1 (by omega) (by omega) (by omega) (by omega) (by omega) (by omega) HPb1.out HPSb1.out _).mono ?_
      rintro e w4 ⟨rfl, s4⟩
      have t4 := bt t3 s4
      clear s4 t3
      go_wp2_with fail
      refine (does_is 9 s1 b a true (by omega) (by omega) (by omega) (by omega) (by omega) (by omega) (by rw [HSUB1.out]) (by rw [HSUB1.out]; rfl) _).mono ?_
      rintro e w5 ⟨rfl, s5⟩
      have t5 := bt t4 s5
      clear s5 t4
      go_wp2_with fail
      refine (does_is 11 a b x1 true (by omega) (by omega) (by omega) (by omega) (by omega) (by omega) (by rw [HX1.out]) (by rw [HX1.out]; rfl) _).mono ?_
      rintro e w6 ⟨rfl, s6⟩
      have t6 := bt t5 s6
      clear s6 t5
      go_wp2_with fail
      refine (does_is 12 a b y1 true (by omega) (by omega) (by omega) (by omega) (by omega) (by omega) (by rw [HY1.out]) (by rw [HY1.out]; rfl) _).mono ?_
      rintro e w7 ⟨rfl, s7⟩
      have t7 := bt t6 s7
      clear s7 t6
      go_wp2_with fail
      refine (does_is 10 x1 b m1 true (by omega) (by omega) (by omega) (by omega) (by omega) (by omega) (by rw [HM1.out]) (by rw [HM1.out]; rfl) _).mono ?_
      rintro e w8 ⟨rfl, s8⟩
      have t8 := bt t7 s8
      clear s8 t7
      go_wp2_with fail
      refine (does_is 8 m1 y1 a true (by omega) (by omega) (by omega) (by omega) (by omega) (by omega) (by rw [HN1.out]) (by rw [HN1.out]; rfl) _).mono ?_
      rintro e w9 ⟨rfl, s9⟩
      have t9 := bt t8 s9
      clear s9 t8
      go_wp2_with fail
      go_roundw
      case rel => exact ⟨2, by omega, rfl, t9⟩
      case measure => simp [intOf]
    · go_wp2_with fail
      have HT2 := Lib.hid (Joins.tab_stays gTab HT.out hb (Nat.le_refl _))
      refine (alive_any _ HT2.out).mono ?_
      rintro e wz ⟨rfl, sz⟩
      have tz := bt hb sz
      go_wp2_with fail
      go_ret
      exact ⟨rfl, tz⟩

theorem rules_tf (a b : Int) (a0 : 0 ≤ a) (a1 : a ≤ 65535) (b0 : 0 ≤ b) (b1 : b ≤ 65535) (hz : b ≠ 0) (hsp : ¬ (a = 32768 ∧ b = 65535)) (his0 : ((D 1 a b).2 == 0) = true) (his1 : ((D 8 a b).2 == 0) = false) (w : World) (htab : Lib.TabIs Tryd.prog w "internal/strconv.uint64pow10" .u64 Lib.pow10Tab) :
    Calls Tryd.prog 5 #[.int .u16 a, .int .u16 b] w fun e w' => e = .returned (.bool true) ∧ Below w.heap.size w w' := by
  have HT := Lib.hid htab
  clear htab
  have HIS0 : Hid (((D 1 a b).2 == 0) = true) := Lib.hid his0
  have HISb0 : Hid (((D 1 b a).2 == 0) = true) := Lib.hid (by rw [c1 a b]; exact his0)
  have sbd0 := bd1 a b
  have hsub0 := (sub1 (by omega) (by omega) (by omega) (by omega) HIS0.out)
  obtain ⟨s0, hs0⟩ : ∃ z, (D 1 a b).1 = z := ⟨_, rfl⟩
  have HSb0 : Hid ((D 1 b a).1 = s0) := Lib.hid (by rw [c1 a b]; exact hs0)
  rw [hs0] at hsub0
  have HSUB0 := Lib.hid hsub0
  clear hsub0
  rw [hs0] at sbd0
  obtain ⟨s00, s10⟩ := sbd0
  have HS0 := Lib.hid hs0
  clear hs0 his0
  obtain ⟨p0, hp0⟩ : ∃ z, (D 3 a b).1 = z := ⟨_, rfl⟩
  have HPb0 : Hid ((D 3 b a).1 = p0) := Lib.hid (by rw [c3 a b]; exact hp0)
  have HP0 := Lib.hid hp0
  clear hp0
  obtain ⟨ps0, hps0⟩ : ∃ z : Bool, ((D 3 a b).2 == 0) = z := ⟨_, rfl⟩
  have HPSb0 : Hid (((D 3 b a).2 == 0) = ps0) := Lib.hid (by rw [c3 a b]; exact hps0)
  have HPS0 := Lib.hid hps0
  clear hps0
  obtain ⟨d1, d2, d3, d4, d5⟩ := div_s a0 a1 b0 b1 hz hsp
  obtain ⟨e1, e2, e3⟩ := rems_s a0 a1 b0 b1 hz
  obtain ⟨x0, hx0⟩ : ∃ z, (D 4 a b).1 = z := ⟨_, rfl⟩
  obtain ⟨y0, hy0⟩ : ∃ z, (D 5 a b).1 = z := ⟨_, rfl⟩
  rw [hx0] at d2 d3 d4 d5
  rw [hy0] at d3 e2 e3
  obtain ⟨m0, hm0⟩ : ∃ z, (D 3 x0 b).1 = z := ⟨_, rfl⟩
  rw [hm0] at d3 d5
  have e4 : ¬ (max (sg b) (-sg b) ≤ max (sg y0) (-sg y0)) := by omega
  clear e3
  obtain ⟨x00, x01⟩ := d4
  obtain ⟨y00, y01⟩ := e2
  obtain ⟨m00, m01⟩ := d5
  obtain ⟨sb0, sb1⟩ := sg_bd b b0 b1
  obtain ⟨sy0, sy1⟩ := sg_bd y0 y00 y01
  have HX0 := Lib.hid hx0
  have HXS0 := Lib.hid d1
  have HY0 := Lib.hid hy0
  have HYS0 := Lib.hid e1
  have HM0 := Lib.hid hm0
  have HMS0 := Lib.hid d2
  have HN0 := Lib.hid d3
  clear hx0 d1 hy0 e1 hm0 d2 d3
  have HIS1 : Hid (((D 8 a b).2 == 0) = false) := Lib.hid his1
  have HISb1 : Hid (((D 8 b a).2 == 0) = false) := Lib.hid (by rw [c8 a b]; exact his1)
  have sbd1 := bd8 a b
  obtain ⟨s1, hs1⟩ : ∃ z, (D 8 a b).1 = z := ⟨_, rfl⟩
  have HSb1 : Hid ((D 8 b a).1 = s1) := Lib.hid (by rw [c8 a b]; exact hs1)
  rw [hs1] at sbd1
  obtain ⟨s01, s11⟩ := sbd1
  have HS1 := Lib.hid hs1
  clear hs1 his1
  obtain ⟨p1, hp1⟩ : ∃ z, (D 10 a b).1 = z := ⟨_, rfl⟩
  have HPb1 : Hid ((D 10 b a).1 = p1) := Lib.hid (by rw [c10 a b]; exact hp1)
  have HP1 := Lib.hid hp1
  clear hp1
  obtain ⟨ps1, hps1⟩ : ∃ z : Bool, ((D 10 a b).2 == 0) = z := ⟨_, rfl⟩
  have HPSb1 : Hid (((D 10 b a).2 == 0) = ps1) := Lib.hid (by rw [c10 a b]; exact hps1)
  have HPS1 := Lib.hid hps1
  clear hps1
  obtain ⟨f1, f2, f3, f4, f5, f6, f7⟩ := div_u a0 a1 b0 b1 hz
  obtain ⟨x1, hx1⟩ : ∃ z, a / b = z := ⟨_, rfl⟩
  obtain ⟨y1, hy1⟩ : ∃ z, a % b = z := ⟨_, rfl⟩
  rw [hx1] at f1 f3 f4 f5 f6
  rw [hy1] at f2 f4 f7
  obtain ⟨m1, hm1⟩ : ∃ z, x1 * b = z := ⟨_, rfl⟩
  rw [hm1] at f3 f4 f6
  obtain ⟨x10, x11⟩ := f5
  obtain ⟨m10, m11⟩ := f6
  obtain ⟨y10, y11⟩ := f7
  have HX1 := Lib.hid f1
  have HY1 := Lib.hid f2
  have HM1 := Lib.hid f3
  have HN1 := Lib.hid f4
  clear f1 f2 f3 f4 hx1 hy1 hm1
  have nz : (b == 0) = false := beq_eq_false_iff_ne.2 hz
  clear hz hsp
  go_enter Tryd.func5, Tryd.ntmps5
  go_wp2_with fail
  go_loopw [5] (fun k wr => ∃ j : Nat, j ≤ 2 ∧ k = .int .u8 j ∧ Below w.heap.size w wr) (fun k _ => (2 - intOf k).toNat)
  case atStart => exact ⟨0, by omega, rfl, Below.refl _ _⟩
  case round =>
    obtain ⟨j, hj, rfl, hb⟩ := hrel
    have hj3 : j = 0 ∨ j = 1 ∨ j = 2 := by omega
    rcases hj3 with rfl | rfl | rfl
    · go_wp2_with fail
      refine (does_is 1 a b s0 true (by omega) (by omega) (by omega) (by omega) (by omega) (by omega) HS0.out HIS0.out _).mono ?_
      rintro e w1 ⟨rfl, s1⟩
      have t1 := bt hb s1
      clear s1
      go_wp2_with fail
      refine (does_is 1 b a s0 true (by omega) (by omega) (by omega) (by omega) (by omega) (by omega) HSb0.out HISb0.out _).mono ?_
      rintro e w2 ⟨rfl, s2⟩
      have t2 := bt t1 s2
      clear s2 t1
      go_wp2_with fail
      refine (does_is 3 a b p0 ps0 (by omega) (by omega) (by omega) (by omega) (by omega) (by omega) HP0.out HPS0.out _).mono ?_
      rintro e w3 ⟨rfl, s3⟩
      have t3 := bt t2 s3
      clear s3 t2
      go_wp2_with fail
      refine (does_is 3 b a p0 ps0 (by omega) (by omega) (by omega) (by omega) (by omega) (by omega) HPb0.out HPSb0.out _).mono ?_
      rintro e w4 ⟨rfl, s4⟩
      have t4 := bt t3 s4
      clear s4 t3
      go_wp2_with fail
      refine (does_is 2 s0 b a true (by omega) (by omega) (by omega) (by omega) (by omega) (by omega) (by rw [HSUB0.out]) (by rw [HSUB0.out]; rfl) _).mono ?_
      rintro e w5 ⟨rfl, s5⟩
      have t5 := bt t4 s5
      clear s5 t4
      go_wp2_with fail
      refine (does_is 4 a b x0 true (by omega) (by omega) (by omega) (by omega) (by omega) (by omega) HX0.out HXS0.out _).mono ?_
      rintro e w6 ⟨rfl, s6⟩
      have t6 := bt t5 s6
      clear s6 t5
      go_wp2_with fail
      refine (does_is 5 a b y0 true (by omega) (by omega) (by omega) (by omega) (by omega) (by omega) HY0.out HYS0.out _).mono ?_
      rintro e w7 ⟨rfl, s7⟩
      have t7 := bt t6 s7
      clear s7 t6
      go_wp2_with fail
      refine (does_is 3 x0 b m0 true (by omega) (by omega) (by omega) (by omega) (by omega) (by omega) HM0.out HMS0.out _).mono ?_
      rintro e w8 ⟨rfl, s8⟩
      have t8 := bt t7 s8
      clear s8 t7
      go_wp2_with fail
      refine (does_is 1 m0 y0 a true (by omega) (by omega) (by omega) (by omega) (by omega) (by omega) (by rw [HN0.out]) (by rw [HN0.out]; rfl) _).mono ?_
      rintro e w9 ⟨rfl, s9⟩
      have t9 := bt t8 s9
      clear s9 t8
      go_wp2_with fail
      refine (Int_any y0 (by omega) (by omega) _).mono ?_
      rintro e wa ⟨rfl, rfl⟩
      go_wp2_with fail
      refine (Int_any b (by omega) (by omega) _).mono ?_
      rintro e wb ⟨rfl, rfl⟩
      go_wp2_with fail
      go_roundw
      case rel => exact ⟨1, by omega, rfl, t9⟩
      case measure => simp [intOf]
    · go_wp2_with fail
      refine (does_is 8 a b s1 false (by omega) (by omega) (by omega) (by omega) (by omega) (by omega) HS1.out HIS1.out _).mono ?_
      rintro e w1 ⟨rfl, s1⟩
      have t1 := bt hb s1
      clear s1
      go_wp2_with fail
      refine (does_is 8 b a s1 false (by omega) (by omega) (by omega) (by omega) (by omega) (by omega) HSb1.out HISb1.out _).mono ?_
      rintro e w2 ⟨rfl, s2⟩
      have t2 := bt t1 s2
      clear s2 t1
      go_wp2_with fail
      refine (does_is 10 a b p1 ps1 (by omega) (by omega) (by omega) (by omega) (by omega) (by omega) HP1.out HPS1.out _).mono ?_
      rintro e w3 ⟨rfl, s3⟩
      have t3 := bt t2 s3
      clear s3 t2
      go_wp2_with fail
      refine (does_is 10 b a p1 ps1 (by omega) (by omega) (by omega) (by omega) (by omega) (by omega) HPb1.out HPSb1.out _).mono ?_
      rintro e w4 ⟨rfl, s4⟩
      have t4 := bt t3 s4
      clear s4 t3
      go_wp2_with fail
      refine (does_is 11 a b x1 true (by omega) (by omega) (by omega) (by omega) (by omega) (by omega) (by rw [HX1.out]) (by rw [HX1.out]; rfl) _).mono ?_
      rintro e w5 ⟨rfl, s5⟩
      have t5 := bt t4 s5
      clear s5 t4
      go_wp2_with fail
      refine (does_is 12 a b y1 true (by omega) (by omega) (by omega) (by omega) (by omega) (by omega) (by rw [HY1.out]) (by rw [HY1.out]; rfl) _).mono ?_
      rintro e w6 ⟨rfl, s6⟩
      have t6 := bt t5 s6
      clear s6 t5
      go_wp2_with fail
      refine (does_is 10 x1 b m1 true (by omega) (by omega) (by omega) (by omega) (by omega) (by omega) (by rw [HM1.out]) (by rw [HM1.out]; rfl) _).mono ?_
      rintro e w7 ⟨rfl, s7⟩
      have t7 := bt t6 s7
      clear s7 t6
      go_wp2_with fail
      refine (does_is 8 m1 y1 a true (by omega) (by omega) (by omega) (by omega) (by omega) (by omega) (by rw [HN1.out]) (by rw [HN1.out]; rfl) _).mono ?_
      rintro e w8 ⟨rfl, s8⟩
      have t8 := bt t7 s8
      clear s8 t7
      go_wp2_with fail
      go_roundw
      case rel => exact ⟨2, by omega, rfl, t8⟩
      case measure => simp [intOf]
    · go_wp2_with fail
      have HT2 := Lib.hid (Joins.tab_stays gTab HT.out hb (Nat.le_refl _))
      refine (alive_any _ HT2.out).mono ?_
      rintro e wz ⟨rfl, sz⟩
      have tz := bt hb sz
      go_wp2_with fail
      go_ret
      exact ⟨rfl, tz⟩

theorem rules_ft (a b : Int) (a0 : 0 ≤ a) (a1 : a ≤ 65535) (b0 : 0 ≤ b) (b1 : b ≤ 65535) (hz : b ≠ 0) (hsp : ¬ (a = 32768 ∧ b = 65535)) (his0 : ((D 1 a b).2 == 0) = false) (his1 : ((D 8 a b).2 == 0) = true) (w : World) (htab : Lib.TabIs Tryd.prog w "internal/strconv.uint64pow10" .u64 Lib.pow10Tab) :
    Calls Tryd.prog 5 #[.int .u16 a, .int .u16 b] w fun e w' => e = .returned (.bool true) ∧ Below w.heap.size w w' := by
  have HT := Lib.hid htab
  clear htab
  have HIS0 : Hid (((D 1 a b).2 == 0) = false) := Lib.hid his0
  have HISb0 : Hid (((D 1 b a).2 == 0) = false) := Lib.hid (by rw [c1 a b]; exact his0)
  have sbd0 := bd1 a b
  obtain ⟨s0, hs0⟩ : ∃ z, (D 1 a b).1 = z := ⟨_, rfl⟩
  have HSb0 : Hid ((D 1 b a).1 = s0) := Lib.hid (by rw [c1 a b]; exact hs0)
  rw [hs0] at sbd0
  obtain ⟨s00, s10⟩ := sbd0
  have HS0 := Lib.hid hs0
  clear hs0 his0
  obtain ⟨p0, hp0⟩ : ∃ z, (D 3 a b).1 = z := ⟨_, rfl⟩
  have HPb0 : Hid ((D 3 b a).1 = p0) := Lib.hid (by rw [c3 a b]; exact hp0)
  have HP0 := Lib.hid hp0
  clear hp0
  obtain ⟨ps0, hps0⟩ : ∃ z : Bool, ((D 3 a b).2 == 0) = z := ⟨_, rfl⟩
  have HPSb0 : Hid (((D 3 b a).2 == 0) = ps0) := Lib.hid (by rw [c3 a b]; exact hps0)
  have HPS0 := Lib.hid hps0
  clear hps0
  obtain ⟨d1, d2, d3, d4, d5⟩ := div_s a0 a1 b0 b1 hz hsp
  obtain ⟨e1, e2, e3⟩ := rems_s a0 a1 b0 b1 hz
  obtain ⟨x0, hx0⟩ : ∃ z, (D 4 a b).1 = z := ⟨_, rfl⟩
  obtain ⟨y0, hy0⟩ : ∃ z, (D 5 a b).1 = z := ⟨_, rfl⟩
  rw [hx0] at d2 d3 d4 d5
  rw [hy0] at d3 e2 e3
  obtain ⟨m0, hm0⟩ : ∃ z, (D 3 x0 b).1 = z := ⟨_, rfl⟩
  rw [hm0] at d3 d5
  have e4 : ¬ (max (sg b) (-sg b) ≤ max (sg y0) (-sg y0)) := by omega
  clear e3
  obtain ⟨x00, x01⟩ := d4
  obtain ⟨y00, y01⟩ := e2
  obtain ⟨m00, m01⟩ := d5
  obtain ⟨sb0, sb1⟩ := sg_bd b b0 b1
  obtain ⟨sy0, sy1⟩ := sg_bd y0 y00 y01
  have HX0 := Lib.hid hx0
  have HXS0 := Lib.hid d1
  have HY0 := Lib.hid hy0
  have HYS0 := Lib.hid e1
  have HM0 := Lib.hid hm0
  have HMS0 := Lib.hid d2
  have HN0 := Lib.hid d3
  clear hx0 d1 hy0 e1 hm0 d2 d3
  have HIS1 : Hid (((D 8 a b).2 == 0) = true) := Lib.hid his1
  have HISb1 : Hid (((D 8 b a).2 == 0) = true) := Lib.hid (by rw [c8 a b]; exact his1)
  have sbd1 := bd8 a b
  have hsub1 := (sub8 (by omega) (by omega) HIS1.out)
  obtain ⟨s1, hs1⟩ : ∃ z, (D 8 a b).1 = z := ⟨_, rfl⟩
  have HSb1 : Hid ((D 8 b a).1 = s1) := Lib.hid (by rw [c8 a b]; exact hs1)
  rw [hs1] at hsub1
  have HSUB1 := Lib.hid hsub1
  clear hsub1
  rw [hs1] at sbd1
  obtain ⟨s01, s11⟩ := sbd1
  have HS1 := Lib.hid hs1
  clear hs1 his1
  obtain ⟨p1, hp1⟩ : ∃ z, (D 10 a b).1 = z := ⟨_, rfl⟩
  have HPb1 : Hid ((D 10 b a).1 = p1) := Lib.hid (by rw [c10 a b]; exact hp1)
  have HP1 := Lib.hid hp1
  clear hp1
  obtain ⟨ps1, hps1⟩ : ∃ z : Bool, ((D 10 a b).2 == 0) = z := ⟨_, rfl⟩
  have HPSb1 : Hid (((D 10 b a).2 == 0) = ps1) := Lib.hid (by rw [c10 a b]; exact hps1)
  have HPS1 := Lib.hid hps1
  clear hps1
  obtain ⟨f1, f2, f3, f4, f5, f6, f7⟩ := div_u a0 a1 b0 b1 hz
  obtain ⟨x1, hx1⟩ : ∃ z, a / b = z := ⟨_, rfl⟩
  obtain ⟨y1, hy1⟩ : ∃ z, a % b = z := ⟨_, rfl⟩
  rw [hx1] at f1 f3 f4 f5 f6
  rw [hy1] at f2 f4 f7
  obtain ⟨m1, hm1⟩ : ∃ z, x1 * b = z := ⟨_, rfl⟩
  rw [hm1] at f3 f4 f6
  obtain ⟨x10, x11⟩ := f5
  obtain ⟨m10, m11⟩ := f6
  obtain ⟨y10, y11⟩ := f7
  have HX1 := Lib.hid f1
  have HY1 := Lib.hid f2
  have HM1 := Lib.hid f3
  have HN1 := Lib.hid f4
  clear f1 f2 f3 f4 hx1 hy1 hm1
  have nz : (b == 0) = false := beq_eq_false_iff_ne.2 hz
  clear hz hsp
  go_enter Tryd.func5, Tryd.ntmps5
  go_wp2_with fail
  go_loopw [5] (fun k wr => ∃ j : Nat, j ≤ 2 ∧ k = .int .u8 j ∧ Below w.heap.size w wr) (fun k _ => (2 - intOf k).toNat)
  case atStart => exact ⟨0, by omega, rfl, Below.refl _ _⟩
  case round =>
    obtain ⟨j, hj, rfl, hb⟩ := hrel
    have hj3 : j = 0 ∨ j = 1 ∨ j = 2 := by omega
    rcases hj3 with rfl | rfl | rfl
    · go_wp2_with fail
      refine (does_is 1 a b s0 false (by omega) (by omega) (by omega) (by omega) (by omega) (by omega) HS0.out HIS0.out _).mono ?_
      rintro e w1 ⟨rfl, s1⟩
      have t1 := bt hb s1
      clear s1
      go_wp2_with fail
      refine (does_is 1 b a s0 false (by omega) (by omega) (by omega) (by omega) (by omega) (by omega) HSb0.out HISb0.out _).mono ?_
      rintro e w2 ⟨rfl, s2⟩
      have t2 := bt t1 s2
      clear s2 t1
      go_wp2_with fail
      refine (does_is 3 a b p0 ps0 (by omega) (by omega) (by omega) (by omega) (by omega) (by omega) HP0.out HPS0.out _).mono ?_
      rintro e w3 ⟨rfl, s3⟩
      have t3 := bt t2 s3
      clear s3 t2
      go_wp2_with fail
      refine (does_is 3 b a p0 ps0 (by omega) (by omega) (by omega) (by omega) (by omega) (by omega) HPb0.out HPSb0.out _).mono ?_
      rintro e w4 ⟨rfl, s4⟩
      have t4 := bt t3 s4
      clear s4 t3
      go_wp2_with fail
      refine (does_is 4 a b x0 true (by omega) (by omega) (by omega) (by omega) (by omega) (by omega) HX0.out HXS0.out _).mono ?_
      rintro e w5 ⟨rfl, s5⟩
      have t5 := bt t4 s5
      clear s5 t4
      go_wp2_with fail
      refine (does_is 5 a b y0 true (by omega) (by omega) (by omega) (by omega) (by omega) (by omega) HY0.out HYS0.out _).mono ?_
      rintro e w6 ⟨rfl, s6⟩
      have t6 := bt t5 s6
      clear s6 t5
      go_wp2_with fail
      refine (does_is 3 x0 b m0 true (by omega) (by omega) (by omega) (by omega) (by omega) (by omega) HM0.out HMS0.out _).mono ?_
      rintro e w7 ⟨rfl, s7⟩
      have t7 := bt t6 s7
      clear s7 t6
      go_wp2_with fail
      refine (does_is 1 m0 y0 a true (by omega) (by omega) (by omega) (by omega) (by omega) (by omega) (by rw [HN0.out]) (by rw [HN0.out]; rfl) _).mono ?_
      rintro e w8 ⟨rfl, s8⟩
      have t8 := bt t7 s8
      clear s8 t7
      go_wp2_with fail
      refine (Int_any y0 (by omega) (by omega) _).mono ?_
      rintro e wa ⟨rfl, rfl⟩
      go_wp2_with fail
      refine (Int_any b (by omega) (by omega) _).mono ?_
      rintro e wb ⟨rfl, rfl⟩
      go_wp2_with fail
      go_roundw
      case rel => exact ⟨1, by omega, rfl, t8⟩
      case measure => simp [intOf]
    · go_wp2_with fail
      refine (does_is 8 a b s1 true (by omega) (by omega) (by omega) (by omega) (by omega) (by omega) HS1.out HIS1.out _).mono ?_
      rintro e w1 ⟨rfl, s1⟩
      have t1 := bt hb s1
      clear s1
      go_wp2_with fail
      refine (does_is 8 b a s1 true (by omega) (by omega) (by omega) (by omega) (by omega) (by omega) HSb1.out HISb1.out _).mono ?_
      rintro e w2 ⟨rfl, s2⟩
      have t2 := bt t1 s2
      clear s2 t1
      go_wp2_with fail
      refine (does_is 10 a b p1 ps1 (by omega) (by omega) (by omega) (by omega) (by omega) (by omega) HP1.out HPS1.out _).mono ?_
      rintro e w3 ⟨rfl, s3⟩
      have t3 := bt t2 s3
      clear s3 t2
      go_wp2_with fail
      refine (does_is 10 b a p1 ps1 (by omega) (by omega) (by omega) (by omega) (by omega) (by omega) HPb1.out HPSb1.out _).mono ?_
      rintro e w4 ⟨rfl, s4⟩
      have t4 := bt t3 s4
      clear s4 t3
      go_wp2_with fail
      refine (does_is 9 s1 b a true (by omega) (by omega) (by omega) (by omega) (by omega) (by omega) (by rw [HSUB1.out]) (by rw [HSUB1.out]; rfl) _).mono ?_
      rintro e w5 ⟨rfl, s5⟩
      have t5 := bt t4 s5
      clear s5 t4
      go_wp2_with fail
      refine (does_is 11 a b x1 true (by omega) (by omega) (by omega) (by omega) (by omega) (by omega) (by rw [HX1.out]) (by rw [HX1.out]; rfl) _).mono ?_
      rintro e w6 ⟨rfl, s6⟩
      have t6 := bt t5 s6
      clear s6 t5
      go_wp2_with fail
      refine (does_is 12 a b y1 true (by omega) (by omega) (by omega) (by omega) (by omega) (by omega) (by rw [HY1.out]) (by rw [HY1.out]; rfl) _).mono ?_
      rintro e w7 ⟨rfl, s7⟩
      have t7 := bt t6 s7
      clear s7 t6
      go_wp2_with fail
      refine (does_is 10 x1 b m1 true (by omega) (by omega) (by omega) (by omega) (by omega) (by omega) (by rw [HM1.out]) (by rw [HM1.out]; rfl) _).mono ?_
      rintro e w8 ⟨rfl, s8⟩
      have t8 := bt t7 s8
      clear s8 t7
      go_wp2_with fail
      refine (does_is 8 m1 y1 a true (by omega) (by omega) (by omega) (by omega) (by omega) (by omega) (by rw [HN1.out]) (by rw [HN1.out]; rfl) _).mono ?_
      rintro e w9 ⟨rfl, s9⟩
      have t9 := bt t8 s9
      clear s9 t8
      go_wp2_with fail
      go_roundw
      case rel => exact ⟨2, by omega, rfl, t9⟩
      case measure => simp [intOf]
    · go_wp2_with fail
      have HT2 := Lib.hid (Joins.tab_stays gTab HT.out hb (Nat.le_refl _))
      refine (alive_any _ HT2.out).mono ?_
      rintro e wz ⟨rfl, sz⟩
      have tz := bt hb sz
      go_wp2_with fail
      go_ret
      exact ⟨rfl, tz⟩

theorem rules_ff (a b : Int) (a0 : 0 ≤ a) (a1 : a ≤ 65535) (b0 : 0 ≤ b) (b1 : b ≤ 65535) (hz : b ≠ 0) (hsp : ¬ (a = 32768 ∧ b = 65535)) (his0 : ((D 1 a b).2 == 0) = false) (his1 : ((D 8 a b).2 == 0) = false) (w : World) (htab : Lib.TabIs Tryd.prog w "internal/strconv.uint64pow10" .u64 Lib.pow10Tab) :
    Calls Tryd.prog 5 #[.int .u16 a, .int .u16 b] w fun e w' => e = .returned (.bool true) ∧ Below w.heap.size w w' := by
  have HT := Lib.hid htab
  clear htab
  have HIS0 : Hid (((D 1 a b).2 == 0) = false) := Lib.hid his0
  have HISb0 : Hid (((D 1 b a).2 == 0) = false) := Lib.hid (by rw [c1 a b]; exact his0)
  have sbd0 := bd1 a b
  obtain ⟨s0, hs0⟩ : ∃ z, (D 1 a b).1 = z := ⟨_, rfl⟩
  have HSb0 : Hid ((D 1 b a).1 = s0) := Lib.hid (by rw [c1 a b]; exact hs0)
  rw [hs0] at sbd0
  obtain ⟨s00, s10⟩ := sbd0
  have HS0 := Lib.hid hs0
  clear hs0 his0
  obtain ⟨p0, hp0⟩ : ∃ z, (D 3 a b).1 = z := ⟨_, rfl⟩
  have HPb0 : Hid ((D 3 b a).1 = p0) := Lib.hid (by rw [c3 a b]; exact hp0)
  have HP0 := Lib.hid hp0
  clear hp0
  obtain ⟨ps0, hps0⟩ : ∃ z : Bool, ((D 3 a b).2 == 0) = z := ⟨_, rfl⟩
  have HPSb0 : Hid (((D 3 b a).2 == 0) = ps0) := Lib.hid (by rw [c3 a b]; exact hps0)
  have HPS0 := Lib.hid hps0
  clear hps0
  obtain ⟨d1, d2, d3, d4, d5⟩ := div_s a0 a1 b0 b1 hz hsp
  obtain ⟨e1, e2, e3⟩ := rems_s a0 a1 b0 b1 hz
  obtain ⟨x0, hx0⟩ : ∃ z, (D 4 a b).1 = z := ⟨_, rfl⟩
  obtain ⟨y0, hy0⟩ : ∃ z, (D 5 a b).1 = z := ⟨_, rfl⟩
  rw [hx0] at d2 d3 d4 d5
  rw [hy0] at d3 e2 e3
  obtain ⟨m0, hm0⟩ : ∃ z, (D 3 x0 b).1 = z := ⟨_, rfl⟩
  rw [hm0] at d3 d5
  have e4 : ¬ (max (sg b) (-sg b) ≤ max (sg y0) (-sg y0)) := by omega
  clear e3
  obtain ⟨x00, x01⟩ := d4
  obtain ⟨y00, y01⟩ := e2
  obtain ⟨m00, m01⟩ := d5
  obtain ⟨sb0, sb1⟩ := sg_bd b b0 b1
  obtain ⟨sy0, sy1⟩ := sg_bd y0 y00 y01
  have HX0 := Lib.hid hx0
  have HXS0 := Lib.hid d1
  have HY0 := Lib.hid hy0
  have HYS0 := Lib.hid e1
  have HM0 := Lib.hid hm0
  have HMS0 := Lib.hid d2
  have HN0 := Lib.hid d3
  clear hx0 d1 hy0 e1 hm0 d2 d3
  have HIS1 : Hid (((D 8 a b).2 == 0) = false) := Lib.hid his1
  have HISb1 : Hid (((D 8 b a).2 == 0) = false) := Lib.hid (by rw [c8 a b]; exact his1)
  have sbd1 := bd8 a b
  obtain ⟨s1, hs1⟩ : ∃ z, (D 8 a b).1 = z := ⟨_, rfl⟩
  have HSb1 : Hid ((D 8 b a).1 = s1) := Lib.hid (by rw [c8 a b]; exact hs1)
  rw [hs1] at sbd1
  obtain ⟨s01, s11⟩ := sbd1
  have HS1 := Lib.hid hs1
  clear hs1 his1
  obtain ⟨p1, hp1⟩ : ∃ z, (D 10 a b).1 = z := ⟨_, rfl⟩
  have HPb1 : Hid ((D 10 b a).1 = p1) := Lib.hid (by rw [c10 a b]; exact hp1)
  have HP1 := Lib.hid hp1
  clear hp1
  obtain ⟨ps1, hps1⟩ : ∃ z : Bool, ((D 10 a b).2 == 0) = z := ⟨_, rfl⟩
  have HPSb1 : Hid (((D 10 b a).2 == 0) = ps1) := Lib.hid (by rw [c10 a b]; exact hps1)
  have HPS1 := Lib.hid hps1
  clear hps1
  obtain ⟨f1, f2, f3, f4, f5, f6, f7⟩ := div_u a0 a1 b0 b1 hz
  obtain ⟨x1, hx1⟩ : ∃ z, a / b = z := ⟨_, rfl⟩
  obtain ⟨y1, hy1⟩ : ∃ z, a % b = z := ⟨_, rfl⟩
  rw [hx1] at f1 f3 f4 f5 f6
  rw [hy1] at f2 f4 f7
  obtain ⟨m1, hm1⟩ : ∃ z, x1 * b = z := ⟨_, rfl⟩
  rw [hm1] at f3 f4 f6
  obtain ⟨x10, x11⟩ := f5
  obtain ⟨m10, m11⟩ := f6
  obtain ⟨y10, y11⟩ := f7
  have HX1 := Lib.hid f1
  have HY1 := Lib.hid f2
  have HM1 := Lib.hid f3
  have HN1 := Lib.hid f4
  clear f1 f2 f3 f4 hx1 hy1 hm1
  have nz : (b == 0) = false := beq_eq_false_iff_ne.2 hz
  clear hz hsp
  go_enter Tryd.func5, Tryd.ntmps5
  go_wp2_with fail
  go_loopw [5] (fun k wr => ∃ j : Nat, j ≤ 2 ∧ k = .int .u8 j ∧ Below w.heap.size w wr) (fun k _ => (2 - intOf k).toNat)
  case atStart => exact ⟨0, by omega, rfl, Below.refl _ _⟩
  case round =>
    obtain ⟨j, hj, rfl, hb⟩ := hrel
    have hj3 : j = 0 ∨ j = 1 ∨ j = 2 := by omega
    rcases hj3 with rfl | rfl | rfl
    · go_wp2_with fail
      refine (does_is 1 a b s0 false (by omega) (by omega) (by omega) (by omega) (by omega) (by omega) HS0.out HIS0.out _).mono ?_
      rintro e w1 ⟨rfl, s1⟩
      have t1 := bt hb s1
      clear s1
      go_wp2_with fail
      refine (does_is 1 b a s0 false (by omega) (by omega) (by omega) (by omega) (by omega) (by omega) HSb0.out HISb0.out _).mono ?_
      rintro e w2 ⟨rfl, s2⟩
      have t2 := bt t1 s2
      clear s2 t1
      go_wp2_with fail
      refine (does_is 3 a b p0 ps0 (by omega) (by omega) (by omega) (by omega) (by omega) (by omega) HP0.out HPS0.out _).mono ?_
      rintro e w3 ⟨rfl, s3⟩
      have t3 := bt t2 s3
      clear s3 t2
      go_wp2_with fail
      refine (does_is 3 b a p0 ps0 (by omega) (by omega) (by omega) (by omega) (by omega) (by omega) HPb0.out HPSb0.out _).mono ?_
      rintro e w4 ⟨rfl, s4⟩
      have t4 := bt t3 s4
      clear s4 t3
      go_wp2_with fail
      refine (does_is 4 a b x0 true (by omega) (by omega) (by omega) (by omega) (by omega) (by omega) HX0.out HXS0.out _).mono ?_
      rintro e w5 ⟨rfl, s5⟩
      have t5 := bt t4 s5
      clear s5 t4
      go_wp2_with fail
      refine (does_is 5 a b y0 true (by omega) (by omega) (by omega) (by omega) (by omega) (by omega) HY0.out HYS0.out _).mono ?_
      rintro e w6 ⟨rfl, s6⟩
      have t6 := bt t5 s6
      clear s6 t5
      go_wp2_with fail
      refine (does_is 3 x0 b m0 true (by omega) (by omega) (by omega) (by omega) (by omega) (by omega) HM0.out HMS0.out _).mono ?_
      rintro e w7 ⟨rfl, s7⟩
      have t7 := bt t6 s7
      clear s7 t6
      go_wp2_with fail
      refine (does_is 1 m0 y0 a true (by omega) (by omega) (by omega) (by omega) (by omega) (by omega) (by rw [HN0.out]) (by rw [HN0.out]; rfl) _).mono ?_
      rintro e w8 ⟨rfl, s8⟩
      have t8 := bt t7 s8
      clear s8 t7
      go_wp2_with fail
      refine (Int_any y0 (by omega) (by omega) _).mono ?_
      rintro e wa ⟨rfl, rfl⟩
      go_wp2_with fail
      refine (Int_any b (by omega) (by omega) _).mono ?_
      rintro e wb ⟨rfl, rfl⟩
      go_wp2_with fail
      go_roundw
      case rel => exact ⟨1, by omega, rfl, t8⟩
      case measure => simp [intOf]
    · go_wp2_with fail
      refine (does_is 8 a b s1 false (by omega) (by omega) (by omega) (by omega) (by omega) (by omega) HS1.out HIS1.out _).mono ?_
      rintro e w1 ⟨rfl, s1⟩
      have t1 := bt hb s1
      clear s1
      go_wp2_with fail
      refine (does_is 8 b a s1 false (by omega) (by omega) (by omega) (by omega) (by omega) (by omega) HSb1.out HISb1.out _).mono ?_
      rintro e w2 ⟨rfl, s2⟩
      have t2 := bt t1 s2
      clear s2 t1
      go_wp2_with fail
      refine (does_is 10 a b p1 ps1 (by omega) (by omega) (by omega) (by omega) (by omega) (by omega) HP1.out HPS1.out _).mono ?_
      rintro e w3 ⟨rfl, s3⟩
      have t3 := bt t2 s3
      clear s3 t2
      go_wp2_with fail
      refine (does_is 10 b a p1 ps1 (by omega) (by omega) (by omega) (by omega) (by omega) (by omega) HPb1.out HPSb1.out _).mono ?_
      rintro e w4 ⟨rfl, s4⟩
      have t4 := bt t3 s4
      clear s4 t3
      go_wp2_with fail
      refine (does_is 11 a b x1 true (by omega) (by omega) (by omega) (by omega) (by omega) (by omega) (by rw [HX1.out]) (by rw [HX1.out]; rfl) _).mono ?_
      rintro e w5 ⟨rfl, s5⟩
      have t5 := bt t4 s5
      clear s5 t4
      go_wp2_with fail
      refine (does_is 12 a b y1 true (by omega) (by omega) (by omega) (by omega) (by omega) (by omega) (by rw [HY1.out]) (by rw [HY1.out]; rfl) _).mono ?_
      rintro e w6 ⟨rfl, s6⟩
      have t6 := bt t5 s6
      clear s6 t5
      go_wp2_with fail
      refine (does_is 10 x1 b m1 true (by omega) (by omega) (by omega) (by omega) (by omega) (by omega) (by rw [HM1.out]) (by rw [HM1.out]; rfl) _).mono ?_
      rintro e w7 ⟨rfl, s7⟩
      have t7 := bt t6 s7
      clear s7 t6
      go_wp2_with fail
      refine (does_is 8 m1 y1 a true (by omega) (by omega) (by omega) (by omega) (by omega) (by omega) (by rw [HN1.out]) (by rw [HN1.out]; rfl) _).mono ?_
      rintro e w8 ⟨rfl, s8⟩
      have t8 := bt t7 s8
      clear s8 t7
      go_wp2_with fail
      go_roundw
      case rel => exact ⟨2, by omega, rfl, t8⟩
      case measure => simp [intOf]
    · go_wp2_with fail
      have HT2 := Lib.hid (Joins.tab_stays gTab HT.out hb (Nat.le_refl _))
      refine (alive_any _ HT2.out).mono ?_
      rintro e wz ⟨rfl, sz⟩
      have tz := bt hb sz
      go_wp2_with fail
      go_ret
      exact ⟨rfl, tz⟩

theorem rules_any (a b : Int) (a0 : 0 ≤ a) (a1 : a ≤ 65535) (b0 : 0 ≤ b) (b1 : b ≤ 65535) (w : World) (htab : Lib.TabIs Tryd.prog w "internal/strconv.uint64pow10" .u64 Lib.pow10Tab) :
    Calls Tryd.prog 5 #[.int .u16 a, .int .u16 b] w fun e w' => e = .returned (.bool true) ∧ Below w.heap.size w w' := by
  by_cases hz : b = 0
  · exact rules_zero a b a0 a1 b0 b1 hz w htab
  · by_cases hsp : a = 32768 ∧ b = 65535
    · exact rules_special a b a0 a1 b0 b1 hsp.1 hsp.2 w htab
    · cases h0 : ((D 1 a b).2 == 0) <;> cases h1 : ((D 8 a b).2 == 0)
      · exact rules_ff a b a0 a1 b0 b1 hz hsp h0 h1 w htab
      · exact rules_ft a b a0 a1 b0 b1 hz hsp h0 h1 w htab
      · exact rules_tf a b a0 a1 b0 b1 hz hsp h0 h1 w htab
      · exact rules_tt a b a0 a1 b0 b1 hz hsp h0 h1 w htab
end Go.Proofs.YtgghdllbegkioaaDoor
