/- The document's own Does at every op; WordDoes, walked. -/
import Derived.Test.YtgghdllbegkioaaDoorWdW
import Derived.Test.YtgghdllbegkioaaDoorWdT
namespace Go.Proofs.YtgghdllbegkioaaDoor
open Go.RowKit
set_option maxHeartbeats 4000000
set_option maxRecDepth 100000
set_option linter.unusedVariables false

theorem sets_28 (a b : Int) (a0 : 0 ≤ a) (a1 : a ≤ 65535) (b0 : 0 ≤ b) (b1 : b ≤ 65535) (w : World) :
    Calls Tryd.prog 28 #[.int .u8 28, .int .u16 a, .int .u16 b] w (Ret (ask (bitAt a b)) w) := by
  by_cases h : a < 16
  · have hd : 0 ≤ b / 2 ^ a.toNat := Int.ediv_nonneg b0 (Int.pow_nonneg (by omega))
    have hb := Lib.hid (bit_mod b a b0 a0)
    have HB : Hid (bitAt a b = b.toNat.testBit a.toNat) := Lib.hid (by simp [bitAt, show a ≤ 15 by omega])
    have h16 : a ≤ 16 := by omega
    go_enter Tryd.func28, Tryd.ntmps28
    go_wp2_with fail
    refine (so_any _ _).mono ?_
    rintro e w1 ⟨rfl, rfl⟩
    go_wp2_with fail
    go_ret2
    exact ⟨ret_of (p := ask (b / 2 ^ a.toNat % 2 == 1)) (by rw [HB.out, hb.out]), rfl⟩
  · have HB : Hid (bitAt a b = false) := Lib.hid (by simp [bitAt, show ¬ a ≤ 15 by omega])
    go_enter Tryd.func28, Tryd.ntmps28
    go_wp2_with fail
    refine (so_any _ _).mono ?_
    rintro e w1 ⟨rfl, rfl⟩
    go_wp2_with fail
    go_ret2
    exact ⟨ret_of (p := ask false) (by rw [HB.out]), rfl⟩

theorem ref_24 (a b : Int) (a0 : 0 ≤ a) (a1 : a ≤ 65535) (b0 : 0 ≤ b) (b1 : b ≤ 65535) (w : World) :
    Calls Tryd.prog 10 #[.int .u8 24, .int .u16 a, .int .u16 b] w (Ret (D 24 a b) w) := by
  obtain ⟨A, rfl⟩ := Int.eq_ofNat_of_zero_le a0
  obtain ⟨B, rfl⟩ := Int.eq_ofNat_of_zero_le b0
  go_enter Tryd.func10, Tryd.ntmps10
  go_wp2_with fail
  refine (refInt_any _ (by omega) (by omega) _).mono ?_
  rintro e w1 ⟨rfl, rfl⟩
  go_wp2_with fail
  refine (refInt_any _ (by omega) (by omega) _).mono ?_
  rintro e w1 ⟨rfl, rfl⟩
  go_wp2_with fail
  refine (takes_is 24 2 (by omega) (by omega) (by decide) _).mono ?_
  rintro e w1 ⟨rfl, rfl⟩
  go_wp2_with fail
  refine (sets_24 A B (by omega) (by omega) _).mono ?_
  rintro e w1 ⟨rfl, rfl⟩
  go_wp2_with fail
  go_ret2
  exact ⟨ret_of (p := (((A ||| B : Nat) : Int), 0)) (by rw [D_24]; rfl), rfl⟩

theorem ref_25 (a b : Int) (a0 : 0 ≤ a) (a1 : a ≤ 65535) (b0 : 0 ≤ b) (b1 : b ≤ 65535) (w : World) :
    Calls Tryd.prog 10 #[.int .u8 25, .int .u16 a, .int .u16 b] w (Ret (D 25 a b) w) := by
  obtain ⟨A, rfl⟩ := Int.eq_ofNat_of_zero_le a0
  obtain ⟨B, rfl⟩ := Int.eq_ofNat_of_zero_le b0
  go_enter Tryd.func10, Tryd.ntmps10
  go_wp2_with fail
  refine (refInt_any _ (by omega) (by omega) _).mono ?_
  rintro e w1 ⟨rfl, rfl⟩
  go_wp2_with fail
  refine (refInt_any _ (by omega) (by omega) _).mono ?_
  rintro e w1 ⟨rfl, rfl⟩
  go_wp2_with fail
  refine (takes_is 25 2 (by omega) (by omega) (by decide) _).mono ?_
  rintro e w1 ⟨rfl, rfl⟩
  go_wp2_with fail
  refine (sets_25 A B (by omega) (by omega) _).mono ?_
  rintro e w1 ⟨rfl, rfl⟩
  go_wp2_with fail
  go_ret2
  exact ⟨ret_of (p := (((A &&& (65535 - B) : Nat) : Int), 0)) (by rw [D_25]; rfl), rfl⟩

theorem ref_26 (a b : Int) (a0 : 0 ≤ a) (a1 : a ≤ 65535) (b0 : 0 ≤ b) (b1 : b ≤ 65535) (w : World) :
    Calls Tryd.prog 10 #[.int .u8 26, .int .u16 a, .int .u16 b] w (Ret (D 26 a b) w) := by
  obtain ⟨A, rfl⟩ := Int.eq_ofNat_of_zero_le a0
  obtain ⟨B, rfl⟩ := Int.eq_ofNat_of_zero_le b0
  go_enter Tryd.func10, Tryd.ntmps10
  go_wp2_with fail
  refine (refInt_any _ (by omega) (by omega) _).mono ?_
  rintro e w1 ⟨rfl, rfl⟩
  go_wp2_with fail
  refine (refInt_any _ (by omega) (by omega) _).mono ?_
  rintro e w1 ⟨rfl, rfl⟩
  go_wp2_with fail
  refine (takes_is 26 2 (by omega) (by omega) (by decide) _).mono ?_
  rintro e w1 ⟨rfl, rfl⟩
  go_wp2_with fail
  refine (sets_26 A B (by omega) (by omega) _).mono ?_
  rintro e w1 ⟨rfl, rfl⟩
  go_wp2_with fail
  go_ret2
  exact ⟨ret_of (p := (((A &&& B : Nat) : Int), 0)) (by rw [D_26]; rfl), rfl⟩

theorem ref_27 (a b : Int) (a0 : 0 ≤ a) (a1 : a ≤ 65535) (b0 : 0 ≤ b) (b1 : b ≤ 65535) (w : World) :
    Calls Tryd.prog 10 #[.int .u8 27, .int .u16 a, .int .u16 b] w (Ret (D 27 a b) w) := by
  obtain ⟨A, rfl⟩ := Int.eq_ofNat_of_zero_le a0
  obtain ⟨B, rfl⟩ := Int.eq_ofNat_of_zero_le b0
  go_enter Tryd.func10, Tryd.ntmps10
  go_wp2_with fail
  refine (refInt_any _ (by omega) (by omega) _).mono ?_
  rintro e w1 ⟨rfl, rfl⟩
  go_wp2_with fail
  refine (refInt_any _ (by omega) (by omega) _).mono ?_
  rintro e w1 ⟨rfl, rfl⟩
  go_wp2_with fail
  refine (takes_is 27 2 (by omega) (by omega) (by decide) _).mono ?_
  rintro e w1 ⟨rfl, rfl⟩
  go_wp2_with fail
  refine (sets_27 A B (by omega) (by omega) _).mono ?_
  rintro e w1 ⟨rfl, rfl⟩
  go_wp2_with fail
  go_ret2
  exact ⟨ret_of (p := (((A ^^^ B : Nat) : Int), 0)) (by rw [D_27]; rfl), rfl⟩

theorem ref_29 (a b : Int) (a0 : 0 ≤ a) (a1 : a ≤ 65535) (b0 : 0 ≤ b) (b1 : b ≤ 65535) (w : World) :
    Calls Tryd.prog 10 #[.int .u8 29, .int .u16 a, .int .u16 b] w (Ret (D 29 a b) w) := by
  obtain ⟨A, rfl⟩ := Int.eq_ofNat_of_zero_le a0
  obtain ⟨B, rfl⟩ := Int.eq_ofNat_of_zero_le b0
  go_enter Tryd.func10, Tryd.ntmps10
  go_wp2_with fail
  refine (refInt_any _ (by omega) (by omega) _).mono ?_
  rintro e w1 ⟨rfl, rfl⟩
  go_wp2_with fail
  refine (refInt_any _ (by omega) (by omega) _).mono ?_
  rintro e w1 ⟨rfl, rfl⟩
  go_wp2_with fail
  refine (takes_is 29 2 (by omega) (by omega) (by decide) _).mono ?_
  rintro e w1 ⟨rfl, rfl⟩
  go_wp2_with fail
  refine (sets_29 A B (by omega) (by omega) _).mono ?_
  rintro e w1 ⟨rfl, rfl⟩
  go_wp2_with fail
  go_ret2
  exact ⟨ret_of (by rw [D_29]; rfl), rfl⟩

theorem ref_28 (a b : Int) (a0 : 0 ≤ a) (a1 : a ≤ 65535) (b0 : 0 ≤ b) (b1 : b ≤ 65535) (w : World) :
    Calls Tryd.prog 10 #[.int .u8 28, .int .u16 a, .int .u16 b] w (Ret (D 28 a b) w) := by
  go_enter Tryd.func10, Tryd.ntmps10
  go_wp2_with fail
  refine (refInt_any _ (by omega) (by omega) _).mono ?_
  rintro e w1 ⟨rfl, rfl⟩
  go_wp2_with fail
  refine (refInt_any _ (by omega) (by omega) _).mono ?_
  rintro e w1 ⟨rfl, rfl⟩
  go_wp2_with fail
  refine (takes_is 28 2 (by omega) (by omega) (by decide) _).mono ?_
  rintro e w1 ⟨rfl, rfl⟩
  go_wp2_with fail
  refine (sets_28 a b a0 a1 b0 b1 _).mono ?_
  rintro e w1 ⟨rfl, rfl⟩
  go_wp2_with fail
  go_ret2
  exact ⟨ret_of (by rw [D_28]), rfl⟩

theorem ref_30 (a b : Int) (a0 : 0 ≤ a) (a1 : a ≤ 65535) (b0 : 0 ≤ b) (b1 : b ≤ 65535) (w : World) :
    Calls Tryd.prog 10 #[.int .u8 30, .int .u16 a, .int .u16 b] w (Ret (D 30 a b) w) := by
  obtain ⟨A, rfl⟩ := Int.eq_ofNat_of_zero_le a0
  obtain ⟨B, rfl⟩ := Int.eq_ofNat_of_zero_le b0
  by_cases h : 15 < A
  · have HD : Hid (D 30 (A : Int) (B : Int) = (0, 2)) := Lib.hid (by rw [D_30]; unfold rowP; rw [if_pos (by omega)])
    have HH := Lib.hid h
    clear h
    go_enter Tryd.func10, Tryd.ntmps10
    go_wp2_with fail
    refine (refInt_any _ (by omega) (by omega) _).mono ?_
    rintro e w1 ⟨rfl, rfl⟩
    go_wp2_with fail
    refine (refInt_any _ (by omega) (by omega) _).mono ?_
    rintro e w1 ⟨rfl, rfl⟩
    go_wp2_with fail
    refine (takes_is 30 1 (by omega) (by omega) (by decide) _).mono ?_
    rintro e w1 ⟨rfl, rfl⟩
    go_wp2_with fail
    refine (sets_30_out A B (by omega) (by omega) HH.out _).mono ?_
    rintro e w1 ⟨rfl, rfl⟩
    go_wp2_with fail
    go_ret2
    exact ⟨ret_of (p := (0, 2)) HD.out.symm, rfl⟩
  · have h1 : A ≤ 15 := by omega
    have HD : Hid (D 30 (A : Int) (B : Int) = (((rowN A A : Nat) : Int), 0)) := Lib.hid (by rw [D_30, rowP_in _ _ (by omega) (by omega)]; rfl)
    clear h
    go_enter Tryd.func10, Tryd.ntmps10
    go_wp2_with fail
    refine (refInt_any _ (by omega) (by omega) _).mono ?_
    rintro e w1 ⟨rfl, rfl⟩
    go_wp2_with fail
    refine (refInt_any _ (by omega) (by omega) _).mono ?_
    rintro e w1 ⟨rfl, rfl⟩
    go_wp2_with fail
    refine (takes_is 30 1 (by omega) (by omega) (by decide) _).mono ?_
    rintro e w1 ⟨rfl, rfl⟩
    go_wp2_with fail
    refine (sets_30 A B (by omega) (by omega) (by omega) _).mono ?_
    rintro e w1 ⟨rfl, rfl⟩
    go_wp2_with fail
    go_ret2
    exact ⟨ret_of (p := (((rowN A A : Nat) : Int), 0)) HD.out.symm, rfl⟩

theorem ref_31 (a b : Int) (a0 : 0 ≤ a) (a1 : a ≤ 65535) (b0 : 0 ≤ b) (b1 : b ≤ 65535) (w : World) :
    Calls Tryd.prog 10 #[.int .u8 31, .int .u16 a, .int .u16 b] w (Ret (D 31 a b) w) := by
  obtain ⟨A, rfl⟩ := Int.eq_ofNat_of_zero_le a0
  obtain ⟨B, rfl⟩ := Int.eq_ofNat_of_zero_le b0
  by_cases h : 15 < A ∨ 15 < B
  · have HD : Hid (D 31 (A : Int) (B : Int) = (0, 2)) := Lib.hid (by rw [D_31]; unfold rowP; rw [if_pos (by omega)])
    have HH := Lib.hid h
    clear h
    go_enter Tryd.func10, Tryd.ntmps10
    go_wp2_with fail
    refine (refInt_any _ (by omega) (by omega) _).mono ?_
    rintro e w1 ⟨rfl, rfl⟩
    go_wp2_with fail
    refine (refInt_any _ (by omega) (by omega) _).mono ?_
    rintro e w1 ⟨rfl, rfl⟩
    go_wp2_with fail
    refine (takes_is 31 2 (by omega) (by omega) (by decide) _).mono ?_
    rintro e w1 ⟨rfl, rfl⟩
    go_wp2_with fail
    refine (sets_31_out A B (by omega) (by omega) HH.out _).mono ?_
    rintro e w1 ⟨rfl, rfl⟩
    go_wp2_with fail
    go_ret2
    exact ⟨ret_of (p := (0, 2)) HD.out.symm, rfl⟩
  · have h1 : A ≤ 15 := by omega
    have h2 : B ≤ 15 := by omega
    have HD : Hid (D 31 (A : Int) (B : Int) = (((rowN A B : Nat) : Int), 0)) := Lib.hid (by rw [D_31, rowP_in _ _ (by omega) (by omega)]; rfl)
    clear h
    go_enter Tryd.func10, Tryd.ntmps10
    go_wp2_with fail
    refine (refInt_any _ (by omega) (by omega) _).mono ?_
    rintro e w1 ⟨rfl, rfl⟩
    go_wp2_with fail
    refine (refInt_any _ (by omega) (by omega) _).mono ?_
    rintro e w1 ⟨rfl, rfl⟩
    go_wp2_with fail
    refine (takes_is 31 2 (by omega) (by omega) (by decide) _).mono ?_
    rintro e w1 ⟨rfl, rfl⟩
    go_wp2_with fail
    refine (sets_31 A B (by omega) (by omega) (by omega) (by omega) _).mono ?_
    rintro e w1 ⟨rfl, rfl⟩
    go_wp2_with fail
    go_ret2
    exact ⟨ret_of (p := (((rowN A B : Nat) : Int), 0)) HD.out.symm, rfl⟩

theorem refDoes_any (op a b : Int) (h0 : 0 ≤ op) (h1 : op ≤ 255) (a0 : 0 ≤ a) (a1 : a ≤ 65535) (b0 : 0 ≤ b) (b1 : b ≤ 65535) (w : World) :
    Calls Tryd.prog 10 #[.int .u8 op, .int .u16 a, .int .u16 b] w (Ret (D op a b) w) := by
  by_cases h : 1 ≤ op ∧ op ≤ 31
  · have h2 : op = 1 ∨ op = 2 ∨ op = 3 ∨ op = 4 ∨ op = 5 ∨ op = 6 ∨ op = 7 ∨ op = 8 ∨ op = 9 ∨ op = 10 ∨ op = 11 ∨ op = 12 ∨ op = 13 ∨ op = 14 ∨ op = 15 ∨ op = 16 ∨ op = 17 ∨ op = 18 ∨ op = 19 ∨ op = 20 ∨ op = 21 ∨ op = 22 ∨ op = 23 ∨ op = 24 ∨ op = 25 ∨ op = 26 ∨ op = 27 ∨ op = 28 ∨ op = 29 ∨ op = 30 ∨ op = 31 := by omega
    clear h h0 h1
    rcases h2 with rfl | rfl | rfl | rfl | rfl | rfl | rfl | rfl | rfl | rfl | rfl | rfl | rfl | rfl | rfl | rfl | rfl | rfl | rfl | rfl | rfl | rfl | rfl | rfl | rfl | rfl | rfl | rfl | rfl | rfl | rfl
    · exact ref_1 a b a0 a1 b0 b1 w
    · exact ref_2 a b a0 a1 b0 b1 w
    · exact ref_3 a b a0 a1 b0 b1 w
    · exact ref_4 a b a0 a1 b0 b1 w
    · exact ref_5 a b a0 a1 b0 b1 w
    · exact ref_6 a b a0 a1 b0 b1 w
    · exact ref_7 a b a0 a1 b0 b1 w
    · exact ref_8 a b a0 a1 b0 b1 w
    · exact ref_9 a b a0 a1 b0 b1 w
    · exact ref_10 a b a0 a1 b0 b1 w
    · exact ref_11 a b a0 a1 b0 b1 w
    · exact ref_12 a b a0 a1 b0 b1 w
    · exact ref_13 a b a0 a1 b0 b1 w
    · exact ref_14 a b a0 a1 b0 b1 w
    · exact ref_15 a b a0 a1 b0 b1 w
    · exact ref_16 a b a0 a1 b0 b1 w
    · exact ref_17 a b a0 a1 b0 b1 w
    · exact ref_18 a b a0 a1 b0 b1 w
    · exact ref_19 a b a0 a1 b0 b1 w
    · exact ref_20 a b a0 a1 b0 b1 w
    · exact ref_21 a b a0 a1 b0 b1 w
    · exact ref_22 a b a0 a1 b0 b1 w
    · exact ref_23 a b a0 a1 b0 b1 w
    · exact ref_24 a b a0 a1 b0 b1 w
    · exact ref_25 a b a0 a1 b0 b1 w
    · exact ref_26 a b a0 a1 b0 b1 w
    · exact ref_27 a b a0 a1 b0 b1 w
    · exact ref_28 a b a0 a1 b0 b1 w
    · exact ref_29 a b a0 a1 b0 b1 w
    · exact ref_30 a b a0 a1 b0 b1 w
    · exact ref_31 a b a0 a1 b0 b1 w
  · have HD := Lib.hid (D_none op a b (by omega))
    have HT : takesN op = 0 := by unfold takesN; rw [if_pos (by omega)]
    go_enter Tryd.func10, Tryd.ntmps10
    go_wp2_with fail
    refine (refInt_any a a0 a1 _).mono ?_
    rintro e w1 ⟨rfl, rfl⟩
    go_wp2_with fail
    refine (refInt_any b b0 b1 _).mono ?_
    rintro e w1 ⟨rfl, rfl⟩
    go_wp2_with fail
    refine (takes_is op 0 h0 h1 HT _).mono ?_
    rintro e w1 ⟨rfl, rfl⟩
    go_wp2_with fail
    go_ret2
    exact ⟨ret_of (p := (0, 12)) HD.out.symm, rfl⟩

theorem wdoes_any (op a b : Int) (h0 : 0 ≤ op) (h1 : op ≤ 255) (a0 : 0 ≤ a) (a1 : a ≤ 65535) (b0 : 0 ≤ b) (b1 : b ≤ 65535) (w : World) (htab : Lib.TabIs Tryd.prog w "internal/strconv.uint64pow10" .u64 Lib.pow10Tab) :
    Calls Tryd.prog 3 #[.int .u8 op, .int .u16 a, .int .u16 b] w fun e w' => e = .returned (.bool true) ∧ Below w.heap.size w w' := by
  have HT := Lib.hid htab
  clear htab
  go_enter Tryd.func3, Tryd.ntmps3
  go_wp2_with fail
  refine (Does_any op a b h0 h1 a0 a1 b0 b1 _).mono ?_
  rintro e w1 ⟨rfl, hb⟩
  obtain ⟨p, hp⟩ : ∃ p, D op a b = p := ⟨_, rfl⟩
  obtain ⟨x, t⟩ := p
  rw [hp]
  have HP := Lib.hid hp
  clear hp
  go_wp2_with fail
  refine (refDoes_any op a b h0 h1 a0 a1 b0 b1 _).mono ?_
  rintro e w2 ⟨rfl, rfl⟩
  rw [HP.out]
  have HT2 := Lib.hid (Joins.tab_stays gTab HT.out hb (Nat.le_refl _))
  go_wp2_with fail
  refine (Takes_any op h0 h1 _).mono ?_
  rintro e w2 ⟨rfl, rfl⟩
  go_wp2_with fail
  refine (refTakes_any op h0 h1 _).mono ?_
  rintro e w2 ⟨rfl, rfl⟩
  go_wp2_with fail
  refine (alive_any _ HT2.out).mono ?_
  rintro e w3 ⟨rfl, b3⟩
  have B3 := bt hb b3
  go_wp2_with fail
  go_ret
  exact ⟨rfl, B3⟩
end Go.Proofs.YtgghdllbegkioaaDoor
