/- Takes, Of, Int, Within, Text of package word, and alive, walked. -/
import Derived.Test.YtgghdllbegkioaaDoorWdF
import Derived.Test.YtgghdllbegkioaaDoorShelf
import Derived.Lib.SmallJoins
import Derived.Lib.AppendIntMem
import Derived.Outline
namespace Go.Proofs.YtgghdllbegkioaaDoor
open Go.RowKit
set_option maxHeartbeats 400000
set_option linter.unusedVariables false

theorem bt {a b c : World} (h1 : Below a.heap.size a b) (h2 : Below b.heap.size b c) : Below a.heap.size a c := h1.trans (h2.mono h1.size)

/-- How many words an op takes. -/
def takesN (op : Int) : Int := if op < 1 ∨ 31 < op then 0 else if op = 6 ∨ op = 7 ∨ op = 23 ∨ op = 30 then 1 else 2
theorem Takes_any (op : Int) (h0 : 0 ≤ op) (h1 : op ≤ 255) (w : World) :
    Calls Tryd.prog 11 #[.int .u8 op] w fun e w' => e = .returned (.int .i64 (takesN op)) ∧ w = w' := by
  have h : op < 1 ∨ 31 < op ∨ op = 6 ∨ op = 7 ∨ op = 23 ∨ op = 30 ∨ (1 ≤ op ∧ op ≤ 31 ∧ op ≠ 6 ∧ op ≠ 7 ∧ op ≠ 23 ∧ op ≠ 30) := by omega
  rcases h with h | h | rfl | rfl | rfl | rfl | h
  · have HT : Hid (takesN op = 0) := Lib.hid (by unfold takesN; rw [if_pos (by omega)])
    have n0 : (op == 6) = false := by rw [beq_eq_false_iff_ne]; omega
    have n1 : (op == 7) = false := by rw [beq_eq_false_iff_ne]; omega
    have n2 : (op == 23) = false := by rw [beq_eq_false_iff_ne]; omega
    have n3 : (op == 30) = false := by rw [beq_eq_false_iff_ne]; omega
    go_enter Tryd.func11, Tryd.ntmps11
    go_wp2
    go_ret
    exact ⟨by rw [HT.out]; rfl, rfl⟩
  · have HT : Hid (takesN op = 0) := Lib.hid (by unfold takesN; rw [if_pos (by omega)])
    have n0 : (op == 6) = false := by rw [beq_eq_false_iff_ne]; omega
    have n1 : (op == 7) = false := by rw [beq_eq_false_iff_ne]; omega
    have n2 : (op == 23) = false := by rw [beq_eq_false_iff_ne]; omega
    have n3 : (op == 30) = false := by rw [beq_eq_false_iff_ne]; omega
    go_enter Tryd.func11, Tryd.ntmps11
    go_wp2
    go_ret
    exact ⟨by rw [HT.out]; rfl, rfl⟩
  all_goals try
    go_enter Tryd.func11, Tryd.ntmps11
    go_wp2
    go_ret
    exact ⟨rfl, rfl⟩
  · obtain ⟨h2, h3, m0, m1, m2, m3⟩ := h
    have HT : Hid (takesN op = 2) := Lib.hid (by unfold takesN; rw [if_neg (by omega), if_neg (by omega)])
    have n0 : (op == 6) = false := by rw [beq_eq_false_iff_ne]; omega
    have n1 : (op == 7) = false := by rw [beq_eq_false_iff_ne]; omega
    have n2 : (op == 23) = false := by rw [beq_eq_false_iff_ne]; omega
    have n3 : (op == 30) = false := by rw [beq_eq_false_iff_ne]; omega
    go_enter Tryd.func11, Tryd.ntmps11
    go_wp2
    go_ret
    exact ⟨by rw [HT.out]; rfl, rfl⟩

/-- The word that is n, and whether there is one. -/
def ofN (n : Int) : Int × Bool := if n < -32768 ∨ 65535 < n then (0, false) else (n % 65536, true)
theorem Of_any (n : Int) (h0 : -9223372036854775808 ≤ n) (h1 : n ≤ 9223372036854775807) (w : World) :
    Calls Tryd.prog 14 #[.int .i64 n] w fun e w' => e = .returned (.tuple #[.int .u16 (ofN n).1, .bool (ofN n).2]) ∧ w = w' := by
  have h : n < -32768 ∨ 65535 < n ∨ (-32768 ≤ n ∧ n ≤ 65535) := by omega
  rcases h with h | h | ⟨g0, g1⟩
  · have HT : Hid (ofN n = (0, false)) := Lib.hid (by unfold ofN; rw [if_pos (by omega)])
    go_enter Tryd.func14, Tryd.ntmps14
    go_wp2
    go_ret2
    exact ⟨by rw [HT.out]; rfl, rfl⟩
  · have HT : Hid (ofN n = (0, false)) := Lib.hid (by unfold ofN; rw [if_pos (by omega)])
    go_enter Tryd.func14, Tryd.ntmps14
    go_wp2
    go_ret2
    exact ⟨by rw [HT.out]; rfl, rfl⟩
  · have HT : Hid (ofN n = (n % 65536, true)) := Lib.hid (by unfold ofN; rw [if_neg (by omega)])
    have HW := Lib.hid (IntKind.wrap_u16 n)
    go_enter Tryd.func14, Tryd.ntmps14
    go_wp2
    go_ret2
    exact ⟨by rw [HT.out, ← HW.out]; rfl, rfl⟩

theorem Int_any (a : Int) (h0 : 0 ≤ a) (h1 : a ≤ 65535) (w : World) :
    Calls Tryd.prog 16 #[.int .u16 a] w fun e w' => e = .returned (.int .i64 (sg a)) ∧ w = w' := by
  have e : IntKind.i16.wrap a = sg a := wrap_i16_sg a h0 h1
  obtain ⟨g0, g1⟩ := sg_bd a h0 h1
  go_enter Tryd.func16, Tryd.ntmps16
  go_wp2
  go_ret
  exact ⟨rfl, rfl⟩

/-- Whether a word is within two others. -/
def withinB (s : Bool) (a lo hi : Int) : Bool := if s then decide (sg lo ≤ sg a ∧ sg a ≤ sg hi) else decide (lo ≤ a ∧ a ≤ hi)

/-- The text of a word. -/
def textN (s : Bool) (a : Int) : List UInt8 := Lib.itoa (if s then sg a else a)
theorem Text_any (s : Bool) (a : Int) (h0 : 0 ≤ a) (h1 : a ≤ 65535) (w : World) (htab : Lib.TabIs Tryd.prog w "internal/strconv.uint64pow10" .u64 Lib.pow10Tab) :
    Calls Tryd.prog 20 #[.bool s, .int .u16 a] w fun e w' => e = .returned (.string ⟨(textN s a).toArray⟩) ∧ Below w.heap.size w w' := by
  obtain ⟨g0, g1⟩ := sg_bd a h0 h1
  have HT := Lib.hid htab
  clear htab
  cases s
  · go_enter Tryd.func20, Tryd.ntmps20
    go_wp2_with fail
    refine (Tryd.strconv_Itoa a (by omega) (by omega) _ HT.out).mono ?_
    rintro e w' ⟨rfl, k, os, rfl⟩
    have hb := Lib.below_grow w.heap.size w (Nat.le_refl _) k os
    generalize Sort.grow (w.drewN k) os = w1 at *
    go_wp2_with fail
    go_ret
    exact ⟨rfl, hb⟩
  · go_enter Tryd.func20, Tryd.ntmps20
    go_wp2_with fail
    refine (Int_any a h0 h1 _).mono ?_
    rintro e w' ⟨rfl, rfl⟩
    go_wp2_with fail
    refine (Tryd.strconv_Itoa (sg a) (by omega) (by omega) _ HT.out).mono ?_
    rintro e w' ⟨rfl, k, os, rfl⟩
    have hb := Lib.below_grow w.heap.size w (Nat.le_refl _) k os
    generalize Sort.grow (w.drewN k) os = w1 at *
    go_wp2_with fail
    go_ret
    exact ⟨rfl, hb⟩

theorem lit0 (w : World) : Calls Tryd.prog 9 #[.int .u8 1, .int .u16 32767, .int .u16 1] w (RetB (0, 1) w) := by
  rw [show (0, 1) = D 1 32767 1 by decide]
  exact Does_any 1 32767 1 (by omega) (by omega) (by omega) (by omega) (by omega) (by omega) w

theorem lit1 (w : World) : Calls Tryd.prog 9 #[.int .u8 4, .int .u16 65529, .int .u16 2] w (RetB (65533, 0) w) := by
  rw [show (65533, 0) = D 4 65529 2 by decide]
  exact Does_any 4 65529 2 (by omega) (by omega) (by omega) (by omega) (by omega) (by omega) w

theorem lit2 (w : World) : Calls Tryd.prog 9 #[.int .u8 5, .int .u16 65529, .int .u16 2] w (RetB (65535, 0) w) := by
  rw [show (65535, 0) = D 5 65529 2 by decide]
  exact Does_any 5 65529 2 (by omega) (by omega) (by omega) (by omega) (by omega) (by omega) w

theorem lit3 (w : World) : Calls Tryd.prog 9 #[.int .u8 9, .int .u16 1, .int .u16 2] w (RetB (0, 1) w) := by
  rw [show (0, 1) = D 9 1 2 by decide]
  exact Does_any 9 1 2 (by omega) (by omega) (by omega) (by omega) (by omega) (by omega) w

theorem lit4 (w : World) : Calls Tryd.prog 9 #[.int .u8 31, .int .u16 2, .int .u16 4] w (RetB (28, 0) w) := by
  rw [show (28, 0) = D 31 2 4 by decide]
  exact Does_any 31 2 4 (by omega) (by omega) (by omega) (by omega) (by omega) (by omega) w

theorem lit5 (w : World) : Calls Tryd.prog 9 #[.int .u8 99, .int .u16 1, .int .u16 1] w (RetB (0, 12) w) := by
  rw [show (0, 12) = D 99 1 1 by decide]
  exact Does_any 99 1 1 (by omega) (by omega) (by omega) (by omega) (by omega) (by omega) w

theorem Of_lit (w : World) : Calls Tryd.prog 14 #[.int .i64 (-1)] w fun e w' => e = .returned (.tuple #[.int .u16 65535, .bool true]) ∧ w = w' := by
  have h := Of_any (-1) (by omega) (by omega) w
  rw [show ofN (-1) = (65535, true) by decide] at h
  exact h
theorem Int_lit (w : World) : Calls Tryd.prog 16 #[.int .u16 65535] w fun e w' => e = .returned (.int .i64 (-1)) ∧ w = w' := by
  have h := Int_any 65535 (by omega) (by omega) w
  rw [show sg 65535 = -1 by decide] at h
  exact h
theorem Takes_lit (w : World) : Calls Tryd.prog 11 #[.int .u8 23] w fun e w' => e = .returned (.int .i64 1) ∧ w = w' := by
  have h := Takes_any 23 (by omega) (by omega) w
  rw [show takesN 23 = 1 by decide] at h
  exact h
theorem text_lit : textN true 65535 = [45, 49] := by decide +kernel
theorem Text_lit (w : World) (htab : Lib.TabIs Tryd.prog w "internal/strconv.uint64pow10" .u64 Lib.pow10Tab) : Calls Tryd.prog 20 #[.bool true, .int .u16 65535] w fun e w' => e = .returned (.string ⟨#[45, 49]⟩) ∧ Below w.heap.size w w' := by
  have h := Text_any true 65535 (by omega) (by omega) w htab
  rw [text_lit] at h
  exact h
theorem gTab : Tryd.prog.globalNamed "internal/strconv.uint64pow10" = some 0 := by kernel_rfl

theorem alive_any (w : World) (htab : Lib.TabIs Tryd.prog w "internal/strconv.uint64pow10" .u64 Lib.pow10Tab) :
    Calls Tryd.prog 13 #[] w fun e w' => e = .returned (.bool true) ∧ Below w.heap.size w w' := by
  have HT := Lib.hid htab
  clear htab
  go_enter Tryd.func13, Tryd.ntmps13
  go_wp2_with fail
  refine (lit0 _).mono ?_
  rintro e w1 ⟨rfl, b1⟩
  go_wp2_with fail
  refine (lit1 _).mono ?_
  rintro e w2 ⟨rfl, b2⟩
  go_wp2_with fail
  refine (lit2 _).mono ?_
  rintro e w3 ⟨rfl, b3⟩
  go_wp2_with fail
  refine (lit3 _).mono ?_
  rintro e w4 ⟨rfl, b4⟩
  go_wp2_with fail
  refine (lit4 _).mono ?_
  rintro e w5 ⟨rfl, b5⟩
  go_wp2_with fail
  refine (lit5 _).mono ?_
  rintro e w6 ⟨rfl, b6⟩
  go_wp2_with fail
  refine (Of_lit _).mono ?_
  rintro e w7 ⟨rfl, rfl⟩
  go_wp2_with fail
  refine (Int_lit _).mono ?_
  rintro e w7 ⟨rfl, rfl⟩
  have B := bt (bt (bt (bt (bt b1 b2) b3) b4) b5) b6
  have HT6 := Lib.hid (Joins.tab_stays gTab HT.out B (Nat.le_refl _))
  clear b1 b2 b3 b4 b5 b6
  go_wp2_with fail
  refine (Text_lit _ HT6.out).mono ?_
  rintro e w8 ⟨rfl, b8⟩
  have B8 := bt B b8
  go_wp2_with fail
  refine (Takes_lit _).mono ?_
  rintro e w9 ⟨rfl, rfl⟩
  go_wp2_with fail
  go_ret
  exact ⟨rfl, B8⟩
end Go.Proofs.YtgghdllbegkioaaDoor
