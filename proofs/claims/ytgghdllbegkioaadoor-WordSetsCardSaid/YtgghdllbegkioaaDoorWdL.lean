/- WordSets, walked: words are sets. -/
import Derived.Test.YtgghdllbegkioaaDoorWdK
namespace Go.Proofs.YtgghdllbegkioaaDoor
open Go.RowKit
set_option maxHeartbeats 1000000
set_option maxRecDepth 100000
set_option linter.unusedVariables false

theorem sets_in (a b i : Int) (a0 : 0 ≤ a) (a1 : a ≤ 65535) (b0 : 0 ≤ b) (b1 : b ≤ 65535) (i0 : 0 ≤ i) (i1 : i ≤ 65535) (hin : a % 16 ≤ i % 16) (w : World) (htab : Lib.TabIs Tryd.prog w "internal/strconv.uint64pow10" .u64 Lib.pow10Tab) :
    Calls Tryd.prog 7 #[.int .u16 a, .int .u16 b, .int .u16 i] w fun e w' => e = .returned (.bool true) ∧ Below w.heap.size w w' := by
  have HT := Lib.hid htab
  clear htab
  have k0 : 0 ≤ i % 16 := by omega
  have k1 : i % 16 ≤ 15 := by omega
  have p0 : 0 ≤ a % 16 := by omega
  have p1 : a % 16 ≤ 15 := by omega
  have q0 : 0 ≤ b % 16 := by omega
  have q1 : b % 16 ≤ 15 := by omega
  have m0 : 0 ≤ 16 + i % 100 := by omega
  have m1 : 16 + i % 100 ≤ 65535 := by omega
  have m2 : 16 ≤ 16 + i % 100 := by omega
  have F1 := Lib.hid (f_both a0 a1 b0 b1)
  have F2 := Lib.hid (f_back a0 a1 b0 b1)
  have F3 := Lib.hid (f_none a0 a1 b0 b1)
  have F4 := f_part1 a0 a1 b0 b1
  have F5 := f_part2 a0 a1 b0 b1
  have F6 := Lib.hid (f_in k0 k1 a0 a1)
  have F7 := f_inside k0 k1 p0 p1 q0 q1
  have O1 : Hid (((D 24 a b).2 == 0) = true) := Lib.hid (by rw [D_24]; rfl)
  have O2 : Hid (((D 26 a b).2 == 0) = true) := Lib.hid (by rw [D_26]; rfl)
  have O3 : Hid (((D 27 a b).2 == 0) = true) := Lib.hid (by rw [D_27]; rfl)
  have O4 : Hid (((D 25 a b).2 == 0) = true) := Lib.hid (by rw [D_25]; rfl)
  have O5 : Hid (((D 29 a b).2 == 0) = true) := Lib.hid (by rw [D_29]; rfl)
  obtain ⟨x0, x1⟩ := bd27 a0 a1 b0 b1
  obtain ⟨n0, n1⟩ := bd26 a0 a1 b0 b1
  obtain ⟨l0, l1⟩ := bd25 a0 a1 b0 b1
  have G1 : Hid (((D 24 (D 27 a b).1 (D 26 a b).1).2 == 0) = true) := Lib.hid (by rw [D_24]; rfl)
  have G2 : Hid (((D 24 (D 25 a b).1 (D 26 a b).1).2 == 0) = true) := Lib.hid (by rw [D_24]; rfl)
  have G3 : Hid (((D 26 (D 25 a b).1 b).2 == 0) = true) := Lib.hid (by rw [D_26]; rfl)
  have E1 : Hid ((D 30 (i % 16) 0).1 = (D 30 (i % 16) 0).1) := Lib.hid rfl
  have E2 : Hid (((D 30 (i % 16) 0).2 == 0) = true) := Lib.hid (by rw [f_one k0 k1]; rfl)
  obtain ⟨e0, e1⟩ := one_bd k0 k1
  have E3 : Hid (((D 31 (a % 16) (b % 16)).2 == 0) = true) := Lib.hid (f_row p0 p1 q0 q1)
  obtain ⟨r0, r1⟩ := row_bd p0 p1 q0 q1
  have E4 := Lib.hid (f_far m2)
  have E5 := Lib.hid (f_out (a := a) m2)
  have E6 : Hid (((D 28 (i % 16) a).2 == 0) = true) := Lib.hid (by rw [D_28]; rfl)
  have E7 : Hid (((D 29 (D 30 (i % 16) 0).1 a).2 == 0) = true) := Lib.hid (by rw [D_29]; rfl)
  have E8 : Hid (((D 28 (i % 16) (D 31 (a % 16) (b % 16)).1).2 == 0) = true) := Lib.hid (by rw [D_28]; rfl)
  -- a name for each word
  obtain ⟨O, hO⟩ : ∃ z, (D 24 a b).1 = z := ⟨_, rfl⟩
  obtain ⟨n, hn⟩ : ∃ z, (D 26 a b).1 = z := ⟨_, rfl⟩
  obtain ⟨x, hx⟩ : ∃ z, (D 27 a b).1 = z := ⟨_, rfl⟩
  obtain ⟨l, hl⟩ : ∃ z, (D 25 a b).1 = z := ⟨_, rfl⟩
  obtain ⟨p, hp⟩ : ∃ z, (D 29 a b).1 = z := ⟨_, rfl⟩
  obtain ⟨one, h1⟩ : ∃ z, (D 30 (i % 16) 0).1 = z := ⟨_, rfl⟩
  obtain ⟨row, hr⟩ : ∃ z, (D 31 (a % 16) (b % 16)).1 = z := ⟨_, rfl⟩
  obtain ⟨v, hv⟩ : ∃ z, (D 28 (i % 16) a).1 = z := ⟨_, rfl⟩
  rw [hO, hx, hn] at F1
  rw [hl, hn] at F2
  rw [hl] at F3
  rw [hp, hl] at F4
  rw [hp, hn] at F5
  rw [h1, hv] at F6
  rw [hr] at F7
  rw [hx] at x0 x1
  rw [hn] at n0 n1
  rw [hl] at l0 l1
  rw [hx, hn] at G1
  rw [hl, hn] at G2
  rw [hl] at G3
  rw [h1] at e0 e1 E7
  rw [hr] at r0 r1 E8
  obtain ⟨ins, hi⟩ : ∃ z, (D 28 (i % 16) row).1 = z := ⟨_, rfl⟩
  rw [hi] at F7
  have HO := Lib.hid hO
  have HN := Lib.hid hn
  have HX := Lib.hid hx
  have HL := Lib.hid hl
  have HP := Lib.hid hp
  have H1 := Lib.hid h1
  have HR := Lib.hid hr
  have HV := Lib.hid hv
  have HI := Lib.hid hi
  clear hO hn hx hl hp h1 hr hv hi E1
  obtain ⟨r, hr⟩ : ∃ r : Bool, (l == 0) = r := ⟨_, rfl⟩
  rw [hr] at F4
  rw [F4] at F5
  have F5' := F5.symm
  clear F5
  have c1 : decide (a % 16 ≤ i % 16) = true := decide_eq_true hin
  rw [c1, Bool.true_and] at F7
  clear c1
  go_enter Tryd.func7, Tryd.ntmps7
  go_wp2_with fail
  refine (does_is 24 a b O true (by omega) (by omega) (by omega) (by omega) (by omega) (by omega) HO.out O1.out _).mono ?_
  rintro e w1 ⟨rfl, s1⟩
  have t1 := s1
  clear s1
  go_wp2_with fail
  refine (does_is 26 a b n true (by omega) (by omega) (by omega) (by omega) (by omega) (by omega) HN.out O2.out _).mono ?_
  rintro e w2 ⟨rfl, s2⟩
  have t2 := bt t1 s2
  clear s2 t1
  go_wp2_with fail
  refine (does_is 27 a b x true (by omega) (by omega) (by omega) (by omega) (by omega) (by omega) HX.out O3.out _).mono ?_
  rintro e w3 ⟨rfl, s3⟩
  have t3 := bt t2 s3
  clear s3 t2
  go_wp2_with fail
  refine (does_is 25 a b l true (by omega) (by omega) (by omega) (by omega) (by omega) (by omega) HL.out O4.out _).mono ?_
  rintro e w4 ⟨rfl, s4⟩
  have t4 := bt t3 s4
  clear s4 t3
  go_wp2_with fail
  refine (does_is 29 a b p true (by omega) (by omega) (by omega) (by omega) (by omega) (by omega) HP.out O5.out _).mono ?_
  rintro e w5 ⟨rfl, s5⟩
  have t5 := bt t4 s5
  clear s5 t4
  go_wp2_with fail
  refine (does_is 24 x n O true (by omega) (by omega) (by omega) (by omega) (by omega) (by omega) F1.out G1.out _).mono ?_
  rintro e w6 ⟨rfl, s6⟩
  have t6 := bt t5 s6
  clear s6 t5
  go_wp2_with fail
  refine (does_is 24 l n a true (by omega) (by omega) (by omega) (by omega) (by omega) (by omega) F2.out G2.out _).mono ?_
  rintro e w7 ⟨rfl, s7⟩
  have t7 := bt t6 s7
  clear s7 t6
  go_wp2_with fail
  refine (does_is 26 l b 0 true (by omega) (by omega) (by omega) (by omega) (by omega) (by omega) F3.out G3.out _).mono ?_
  rintro e w8 ⟨rfl, s8⟩
  have t8 := bt t7 s8
  clear s8 t7
  go_wp2_with fail
  refine (does_is 28 (i % 16) a v true (by omega) (by omega) (by omega) (by omega) (by omega) (by omega) HV.out E6.out _).mono ?_
  rintro e w9 ⟨rfl, s9⟩
  have t9 := bt t8 s9
  clear s9 t8
  go_wp2_with fail
  refine (does_is 30 (i % 16) 0 one true (by omega) (by omega) (by omega) (by omega) (by omega) (by omega) H1.out E2.out _).mono ?_
  rintro e w10 ⟨rfl, s10⟩
  have t10 := bt t9 s10
  clear s10 t9
  go_wp2_with fail
  refine (does_is 29 one a v true (by omega) (by omega) (by omega) (by omega) (by omega) (by omega) F6.out E7.out _).mono ?_
  rintro e w11 ⟨rfl, s11⟩
  have t11 := bt t10 s11
  clear s11 t10
  go_wp2_with fail
  refine (does_is 31 (a % 16) (b % 16) row true (by omega) (by omega) (by omega) (by omega) (by omega) (by omega) HR.out E3.out _).mono ?_
  rintro e w12 ⟨rfl, s12⟩
  have t12 := bt t11 s12
  clear s12 t11
  go_wp2_with fail
  refine (does_is 28 (i % 16) row ins true (by omega) (by omega) (by omega) (by omega) (by omega) (by omega) HI.out E8.out _).mono ?_
  rintro e w13 ⟨rfl, s13⟩
  have t13 := bt t12 s13
  clear s13 t12
  go_wp2_with fail
  refine (does_is 30 (16 + i % 100) 0 0 false (by omega) (by omega) (by omega) (by omega) (by omega) (by omega) (by rw [E4.out]) (by rw [E4.out]; rfl) _).mono ?_
  rintro e w14 ⟨rfl, s14⟩
  have t14 := bt t13 s14
  clear s14 t13
  go_wp2_with fail
  refine (does_is 28 (16 + i % 100) a 0 true (by omega) (by omega) (by omega) (by omega) (by omega) (by omega) (by rw [E5.out]) (by rw [E5.out]; rfl) _).mono ?_
  rintro e w15 ⟨rfl, s15⟩
  have t15 := bt t14 s15
  clear s15 t14
  have HT2 := Lib.hid (Joins.tab_stays gTab HT.out t15 (Nat.le_refl _))
  go_wp2_with fail
  refine (alive_any _ HT2.out).mono ?_
  rintro e w16 ⟨rfl, s16⟩
  have tz := bt t15 s16
  go_wp2_with fail
  go_ret
  exact ⟨rfl, tz⟩

theorem sets_out (a b i : Int) (a0 : 0 ≤ a) (a1 : a ≤ 65535) (b0 : 0 ≤ b) (b1 : b ≤ 65535) (i0 : 0 ≤ i) (i1 : i ≤ 65535) (hin : i % 16 < a % 16) (w : World) (htab : Lib.TabIs Tryd.prog w "internal/strconv.uint64pow10" .u64 Lib.pow10Tab) :
    Calls Tryd.prog 7 #[.int .u16 a, .int .u16 b, .int .u16 i] w fun e w' => e = .returned (.bool true) ∧ Below w.heap.size w w' := by
  have HT := Lib.hid htab
  clear htab
  have k0 : 0 ≤ i % 16 := by omega
  have k1 : i % 16 ≤ 15 := by omega
  have p0 : 0 ≤ a % 16 := by omega
  have p1 : a % 16 ≤ 15 := by omega
  have q0 : 0 ≤ b % 16 := by omega
  have q1 : b % 16 ≤ 15 := by omega
  have m0 : 0 ≤ 16 + i % 100 := by omega
  have m1 : 16 + i % 100 ≤ 65535 := by omega
  have m2 : 16 ≤ 16 + i % 100 := by omega
  have F1 := Lib.hid (f_both a0 a1 b0 b1)
  have F2 := Lib.hid (f_back a0 a1 b0 b1)
  have F3 := Lib.hid (f_none a0 a1 b0 b1)
  have F4 := f_part1 a0 a1 b0 b1
  have F5 := f_part2 a0 a1 b0 b1
  have F6 := Lib.hid (f_in k0 k1 a0 a1)
  have F7 := f_inside k0 k1 p0 p1 q0 q1
  have O1 : Hid (((D 24 a b).2 == 0) = true) := Lib.hid (by rw [D_24]; rfl)
  have O2 : Hid (((D 26 a b).2 == 0) = true) := Lib.hid (by rw [D_26]; rfl)
  have O3 : Hid (((D 27 a b).2 == 0) = true) := Lib.hid (by rw [D_27]; rfl)
  have O4 : Hid (((D 25 a b).2 == 0) = true) := Lib.hid (by rw [D_25]; rfl)
  have O5 : Hid (((D 29 a b).2 == 0) = true) := Lib.hid (by rw [D_29]; rfl)
  obtain ⟨x0, x1⟩ := bd27 a0 a1 b0 b1
  obtain ⟨n0, n1⟩ := bd26 a0 a1 b0 b1
  obtain ⟨l0, l1⟩ := bd25 a0 a1 b0 b1
  have G1 : Hid (((D 24 (D 27 a b).1 (D 26 a b).1).2 == 0) = true) := Lib.hid (by rw [D_24]; rfl)
  have G2 : Hid (((D 24 (D 25 a b).1 (D 26 a b).1).2 == 0) = true) := Lib.hid (by rw [D_24]; rfl)
  have G3 : Hid (((D 26 (D 25 a b).1 b).2 == 0) = true) := Lib.hid (by rw [D_26]; rfl)
  have E1 : Hid ((D 30 (i % 16) 0).1 = (D 30 (i % 16) 0).1) := Lib.hid rfl
  have E2 : Hid (((D 30 (i % 16) 0).2 == 0) = true) := Lib.hid (by rw [f_one k0 k1]; rfl)
  obtain ⟨e0, e1⟩ := one_bd k0 k1
  have E3 : Hid (((D 31 (a % 16) (b % 16)).2 == 0) = true) := Lib.hid (f_row p0 p1 q0 q1)
  obtain ⟨r0, r1⟩ := row_bd p0 p1 q0 q1
  have E4 := Lib.hid (f_far m2)
  have E5 := Lib.hid (f_out (a := a) m2)
  have E6 : Hid (((D 28 (i % 16) a).2 == 0) = true) := Lib.hid (by rw [D_28]; rfl)
  have E7 : Hid (((D 29 (D 30 (i % 16) 0).1 a).2 == 0) = true) := Lib.hid (by rw [D_29]; rfl)
  have E8 : Hid (((D 28 (i % 16) (D 31 (a % 16) (b % 16)).1).2 == 0) = true) := Lib.hid (by rw [D_28]; rfl)
  -- a name for each word
  obtain ⟨O, hO⟩ : ∃ z, (D 24 a b).1 = z := ⟨_, rfl⟩
  obtain ⟨n, hn⟩ : ∃ z, (D 26 a b).1 = z := ⟨_, rfl⟩
  obtain ⟨x, hx⟩ : ∃ z, (D 27 a b).1 = z := ⟨_, rfl⟩
  obtain ⟨l, hl⟩ : ∃ z, (D 25 a b).1 = z := ⟨_, rfl⟩
  obtain ⟨p, hp⟩ : ∃ z, (D 29 a b).1 = z := ⟨_, rfl⟩
  obtain ⟨one, h1⟩ : ∃ z, (D 30 (i % 16) 0).1 = z := ⟨_, rfl⟩
  obtain ⟨row, hr⟩ : ∃ z, (D 31 (a % 16) (b % 16)).1 = z := ⟨_, rfl⟩
  obtain ⟨v, hv⟩ : ∃ z, (D 28 (i % 16) a).1 = z := ⟨_, rfl⟩
  rw [hO, hx, hn] at F1
  rw [hl, hn] at F2
  rw [hl] at F3
  rw [hp, hl] at F4
  rw [hp, hn] at F5
  rw [h1, hv] at F6
  rw [hr] at F7
  rw [hx] at x0 x1
  rw [hn] at n0 n1
  rw [hl] at l0 l1
  rw [hx, hn] at G1
  rw [hl, hn] at G2
  rw [hl] at G3
  rw [h1] at e0 e1 E7
  rw [hr] at r0 r1 E8
  obtain ⟨ins, hi⟩ : ∃ z, (D 28 (i % 16) row).1 = z := ⟨_, rfl⟩
  rw [hi] at F7
  have HO := Lib.hid hO
  have HN := Lib.hid hn
  have HX := Lib.hid hx
  have HL := Lib.hid hl
  have HP := Lib.hid hp
  have H1 := Lib.hid h1
  have HR := Lib.hid hr
  have HV := Lib.hid hv
  have HI := Lib.hid hi
  clear hO hn hx hl hp h1 hr hv hi E1
  obtain ⟨r, hr⟩ : ∃ r : Bool, (l == 0) = r := ⟨_, rfl⟩
  rw [hr] at F4
  rw [F4] at F5
  have F5' := F5.symm
  clear F5
  have c1 : decide (a % 16 ≤ i % 16) = false := by rw [decide_eq_false_iff_not]; omega
  rw [c1, Bool.false_and] at F7
  clear c1
  go_enter Tryd.func7, Tryd.ntmps7
  go_wp2_with fail
  refine (does_is 24 a b O true (by omega) (by omega) (by omega) (by omega) (by omega) (by omega) HO.out O1.out _).mono ?_
  rintro e w1 ⟨rfl, s1⟩
  have t1 := s1
  clear s1
  go_wp2_with fail
  refine (does_is 26 a b n true (by omega) (by omega) (by omega) (by omega) (by omega) (by omega) HN.out O2.out _).mono ?_
  rintro e w2 ⟨rfl, s2⟩
  have t2 := bt t1 s2
  clear s2 t1
  go_wp2_with fail
  refine (does_is 27 a b x true (by omega) (by omega) (by omega) (by omega) (by omega) (by omega) HX.out O3.out _).mono ?_
  rintro e w3 ⟨rfl, s3⟩
  have t3 := bt t2 s3
  clear s3 t2
  go_wp2_with fail
  refine (does_is 25 a b l true (by omega) (by omega) (by omega) (by omega) (by omega) (by omega) HL.out O4.out _).mono ?_
  rintro e w4 ⟨rfl, s4⟩
  have t4 := bt t3 s4
  clear s4 t3
  go_wp2_with fail
  refine (does_is 29 a b p true (by omega) (by omega) (by omega) (by omega) (by omega) (by omega) HP.out O5.out _).mono ?_
  rintro e w5 ⟨rfl, s5⟩
  have t5 := bt t4 s5
  clear s5 t4
  go_wp2_with fail
  refine (does_is 24 x n O true (by omega) (by omega) (by omega) (by omega) (by omega) (by omega) F1.out G1.out _).mono ?_
  rintro e w6 ⟨rfl, s6⟩
  have t6 := bt t5 s6
  clear s6 t5
  go_wp2_with fail
  refine (does_is 24 l n a true (by omega) (by omega) (by omega) (by omega) (by omega) (by omega) F2.out G2.out _).mono ?_
  rintro e w7 ⟨rfl, s7⟩
  have t7 := bt t6 s7
  clear s7 t6
  go_wp2_with fail
  refine (does_is 26 l b 0 true (by omega) (by omega) (by omega) (by omega) (by omega) (by omega) F3.out G3.out _).mono ?_
  rintro e w8 ⟨rfl, s8⟩
  have t8 := bt t7 s8
  clear s8 t7
  go_wp2_with fail
  refine (does_is 28 (i % 16) a v true (by omega) (by omega) (by omega) (by omega) (by omega) (by omega) HV.out E6.out _).mono ?_
  rintro e w9 ⟨rfl, s9⟩
  have t9 := bt t8 s9
  clear s9 t8
  go_wp2_with fail
  refine (does_is 30 (i % 16) 0 one true (by omega) (by omega) (by omega) (by omega) (by omega) (by omega) H1.out E2.out _).mono ?_
  rintro e w10 ⟨rfl, s10⟩
  have t10 := bt t9 s10
  clear s10 t9
  go_wp2_with fail
  refine (does_is 29 one a v true (by omega) (by omega) (by omega) (by omega) (by omega) (by omega) F6.out E7.out _).mono ?_
  rintro e w11 ⟨rfl, s11⟩
  have t11 := bt t10 s11
  clear s11 t10
  go_wp2_with fail
  refine (does_is 31 (a % 16) (b % 16) row true (by omega) (by omega) (by omega) (by omega) (by omega) (by omega) HR.out E3.out _).mono ?_
  rintro e w12 ⟨rfl, s12⟩
  have t12 := bt t11 s12
  clear s12 t11
  go_wp2_with fail
  refine (does_is 28 (i % 16) row ins true (by omega) (by omega) (by omega) (by omega) (by omega) (by omega) HI.out E8.out _).mono ?_
  rintro e w13 ⟨rfl, s13⟩
  have t13 := bt t12 s13
  clear s13 t12
  go_wp2_with fail
  refine (does_is 30 (16 + i % 100) 0 0 false (by omega) (by omega) (by omega) (by omega) (by omega) (by omega) (by rw [E4.out]) (by rw [E4.out]; rfl) _).mono ?_
  rintro e w14 ⟨rfl, s14⟩
  have t14 := bt t13 s14
  clear s14 t13
  go_wp2_with fail
  refine (does_is 28 (16 + i % 100) a 0 true (by omega) (by omega) (by omega) (by omega) (by omega) (by omega) (by rw [E5.out]) (by rw [E5.out]; rfl) _).mono ?_
  rintro e w15 ⟨rfl, s15⟩
  have t15 := bt t14 s15
  clear s15 t14
  have HT2 := Lib.hid (Joins.tab_stays gTab HT.out t15 (Nat.le_refl _))
  go_wp2_with fail
  refine (alive_any _ HT2.out).mono ?_
  rintro e w16 ⟨rfl, s16⟩
  have tz := bt t15 s16
  go_wp2_with fail
  go_ret
  exact ⟨rfl, tz⟩

theorem wsets_any (a b i : Int) (a0 : 0 ≤ a) (a1 : a ≤ 65535) (b0 : 0 ≤ b) (b1 : b ≤ 65535) (i0 : 0 ≤ i) (i1 : i ≤ 65535) (w : World) (htab : Lib.TabIs Tryd.prog w "internal/strconv.uint64pow10" .u64 Lib.pow10Tab) :
    Calls Tryd.prog 7 #[.int .u16 a, .int .u16 b, .int .u16 i] w fun e w' => e = .returned (.bool true) ∧ Below w.heap.size w w' := by
  by_cases h : a % 16 ≤ i % 16
  · exact sets_in a b i a0 a1 b0 b1 i0 i1 h w htab
  · exact sets_out a b i a0 a1 b0 b1 i0 i1 (by omega) w htab
end Go.Proofs.YtgghdllbegkioaaDoor
