/- The leaf functions of package word, walked: what each returns. -/
import Derived.Test.YtcecjjjehhjldaaProg
import Derived.Test.YtcecjjjehhjldaaWdP
import Derived.WalkKit
import Derived.WalkLawsBesides
import Derived.Deep.QuietTactic
import Derived.BigQuiet
namespace Go.Proofs.Ytcecjjjehhjldaa
open Go.RowKit
set_option maxHeartbeats 400000
set_option linter.unusedVariables false

/-- It returned the word and the trap of p; the world is as it was. -/
def Ret (p : Int × Int) (w : World) (e : Ending) (w' : World) : Prop := e = .returned (.tuple #[.int .u16 p.1, .int .u8 p.2]) ∧ w = w'

theorem ret_of {p q : Int × Int} (h : p = q) : Ending.returned (.tuple #[.int .u16 p.1, .int .u8 p.2]) = Ending.returned (.tuple #[.int .u16 q.1, .int .u8 q.2]) := by rw [h]

theorem value_s (a : Int) (h0 : 0 ≤ a) (h1 : a ≤ 65535) (w : World) :
    Calls Try.prog 35 #[.int .u16 a] w fun e w' => e = .returned (.int .i64 (sg a)) ∧ w = w' := by
  have e : IntKind.i16.wrap a = sg a := wrap_i16_sg a h0 h1
  have := sg_bd a h0 h1
  obtain ⟨g0, g1⟩ := this
  go_enter Try.func35, Try.ntmps35
  go_wp2
  go_ret
  exact ⟨rfl, rfl⟩

theorem value_u (a : Int) (h0 : 0 ≤ a) (h1 : a ≤ 65535) (w : World) :
    Calls Try.prog 46 #[.int .u16 a] w fun e w' => e = .returned (.int .i64 a) ∧ w = w' := by
  go_enter Try.func46, Try.ntmps46
  go_wp2
  go_ret
  exact ⟨rfl, rfl⟩

theorem fit_s (n : Int) (h0 : -9223372036854775808 ≤ n) (h1 : n ≤ 9223372036854775807) (w : World) :
    Calls Try.prog 34 #[.int .i64 n] w (Ret (fS n) w) := by
  by_cases hn : -32768 ≤ n ∧ n ≤ 32767
  · obtain ⟨g0, g1⟩ := hn
    have e : IntKind.i16.wrap n = n := wrap_i16_in n g0 g1
    have e2 : IntKind.u16.wrap n = n % 65536 := IntKind.wrap_u16 n
    go_enter Try.func34, Try.ntmps34
    go_wp2
    go_ret2
    exact ⟨by simp [fS, g0, g1], rfl⟩
  · have hb := wrap_i16_bd n
    obtain ⟨b0, b1⟩ := hb
    obtain ⟨m, hm⟩ : ∃ m, IntKind.i16.wrap n = m := ⟨_, rfl⟩
    rw [hm] at b0 b1
    have hne : (m != n) = true := by rw [bne_iff_ne]; omega
    go_enter Try.func34, Try.ntmps34
    go_wp2
    go_ret2
    exact ⟨by simp [fS, hn], rfl⟩

theorem fit_u (n : Int) (h0 : -9223372036854775808 ≤ n) (h1 : n ≤ 9223372036854775807) (w : World) :
    Calls Try.prog 45 #[.int .i64 n] w (Ret (fU n) w) := by
  by_cases hn : 0 ≤ n ∧ n ≤ 65535
  · obtain ⟨g0, g1⟩ := hn
    have e : IntKind.u16.wrap n = n := by rw [IntKind.wrap_u16]; omega
    go_enter Try.func45, Try.ntmps45
    go_wp2
    go_ret2
    exact ⟨by simp [fU, g0, g1], rfl⟩
  · obtain ⟨m, hm⟩ : ∃ m, IntKind.u16.wrap n = m := ⟨_, rfl⟩
    have hb : 0 ≤ m ∧ m ≤ 65535 := by rw [← hm, IntKind.wrap_u16]; omega
    obtain ⟨b0, b1⟩ := hb
    have hne : (m != n) = true := by rw [bne_iff_ne]; omega
    go_enter Try.func45, Try.ntmps45
    go_wp2
    go_ret2
    exact ⟨by simp [fU, hn], rfl⟩

theorem truth_any (b : Bool) (w : World) : Calls Try.prog 54 #[.bool b] w (Ret (ask b) w) := by
  cases b
  all_goals
    go_enter Try.func54, Try.ntmps54
    go_wp2
    go_ret2
    exact ⟨rfl, rfl⟩

theorem c_iadd (a b : Int) (a0 : 0 ≤ a) (a1 : a ≤ 65535) (b0 : 0 ≤ b) (b1 : b ≤ 65535) (w : World) : Calls Try.prog 33 #[.int .u16 a, .int .u16 b] w (Ret (D 1 a b) w) := by
  obtain ⟨sa0, sa1⟩ := sg_bd a a0 a1
  obtain ⟨sb0, sb1⟩ := sg_bd b b0 b1
  go_enter Try.func33, Try.ntmps33
  go_wp2_with fail
  refine (value_s a a0 a1 _).mono ?_
  rintro e w' ⟨rfl, rfl⟩
  go_wp2_with fail
  refine (value_s b b0 b1 _).mono ?_
  rintro e w' ⟨rfl, rfl⟩
  go_wp2_with fail
  refine (fit_s _ (by omega) (by omega) _).mono ?_
  rintro e w' ⟨rfl, rfl⟩
  go_wp2_with fail
  go_ret2
  exact ⟨by simp [D], rfl⟩

theorem c_isub (a b : Int) (a0 : 0 ≤ a) (a1 : a ≤ 65535) (b0 : 0 ≤ b) (b1 : b ≤ 65535) (w : World) : Calls Try.prog 36 #[.int .u16 a, .int .u16 b] w (Ret (D 2 a b) w) := by
  obtain ⟨sa0, sa1⟩ := sg_bd a a0 a1
  obtain ⟨sb0, sb1⟩ := sg_bd b b0 b1
  go_enter Try.func36, Try.ntmps36
  go_wp2_with fail
  refine (value_s a a0 a1 _).mono ?_
  rintro e w' ⟨rfl, rfl⟩
  go_wp2_with fail
  refine (value_s b b0 b1 _).mono ?_
  rintro e w' ⟨rfl, rfl⟩
  go_wp2_with fail
  refine (fit_s _ (by omega) (by omega) _).mono ?_
  rintro e w' ⟨rfl, rfl⟩
  go_wp2_with fail
  go_ret2
  exact ⟨by simp [D], rfl⟩

theorem c_imul (a b : Int) (a0 : 0 ≤ a) (a1 : a ≤ 65535) (b0 : 0 ≤ b) (b1 : b ≤ 65535) (w : World) : Calls Try.prog 37 #[.int .u16 a, .int .u16 b] w (Ret (D 3 a b) w) := by
  obtain ⟨sa0, sa1⟩ := sg_bd a a0 a1
  obtain ⟨sb0, sb1⟩ := sg_bd b b0 b1
  obtain ⟨m0, m1⟩ := mul_bd (sg a) (sg b) (by omega) (by omega) (by omega) (by omega)
  go_enter Try.func37, Try.ntmps37
  go_wp2_with fail
  refine (value_s a a0 a1 _).mono ?_
  rintro e w' ⟨rfl, rfl⟩
  go_wp2_with fail
  refine (value_s b b0 b1 _).mono ?_
  rintro e w' ⟨rfl, rfl⟩
  go_wp2_with fail
  refine (fit_s _ (by omega) (by omega) _).mono ?_
  rintro e w' ⟨rfl, rfl⟩
  go_wp2_with fail
  go_ret2
  exact ⟨by simp [D], rfl⟩

theorem c_ineg (a b : Int) (a0 : 0 ≤ a) (a1 : a ≤ 65535) (b0 : 0 ≤ b) (b1 : b ≤ 65535) (w : World) : Calls Try.prog 42 #[.int .u16 a, .int .u16 b] w (Ret (D 6 a b) w) := by
  obtain ⟨sa0, sa1⟩ := sg_bd a a0 a1
  obtain ⟨sb0, sb1⟩ := sg_bd b b0 b1
  go_enter Try.func42, Try.ntmps42
  go_wp2_with fail
  refine (value_s a a0 a1 _).mono ?_
  rintro e w' ⟨rfl, rfl⟩
  go_wp2_with fail
  refine (fit_s _ (by omega) (by omega) _).mono ?_
  rintro e w' ⟨rfl, rfl⟩
  go_wp2_with fail
  go_ret2
  exact ⟨by simp [D], rfl⟩

theorem c_cadd (a b : Int) (a0 : 0 ≤ a) (a1 : a ≤ 65535) (b0 : 0 ≤ b) (b1 : b ≤ 65535) (w : World) : Calls Try.prog 44 #[.int .u16 a, .int .u16 b] w (Ret (D 8 a b) w) := by
  go_enter Try.func44, Try.ntmps44
  go_wp2_with fail
  refine (value_u a a0 a1 _).mono ?_
  rintro e w' ⟨rfl, rfl⟩
  go_wp2_with fail
  refine (value_u b b0 b1 _).mono ?_
  rintro e w' ⟨rfl, rfl⟩
  go_wp2_with fail
  refine (fit_u _ (by omega) (by omega) _).mono ?_
  rintro e w' ⟨rfl, rfl⟩
  go_wp2_with fail
  go_ret2
  exact ⟨by simp [D], rfl⟩

theorem c_csub (a b : Int) (a0 : 0 ≤ a) (a1 : a ≤ 65535) (b0 : 0 ≤ b) (b1 : b ≤ 65535) (w : World) : Calls Try.prog 47 #[.int .u16 a, .int .u16 b] w (Ret (D 9 a b) w) := by
  go_enter Try.func47, Try.ntmps47
  go_wp2_with fail
  refine (value_u a a0 a1 _).mono ?_
  rintro e w' ⟨rfl, rfl⟩
  go_wp2_with fail
  refine (value_u b b0 b1 _).mono ?_
  rintro e w' ⟨rfl, rfl⟩
  go_wp2_with fail
  refine (fit_u _ (by omega) (by omega) _).mono ?_
  rintro e w' ⟨rfl, rfl⟩
  go_wp2_with fail
  go_ret2
  exact ⟨by simp [D], rfl⟩

theorem c_cmul (a b : Int) (a0 : 0 ≤ a) (a1 : a ≤ 65535) (b0 : 0 ≤ b) (b1 : b ≤ 65535) (w : World) : Calls Try.prog 48 #[.int .u16 a, .int .u16 b] w (Ret (D 10 a b) w) := by
  obtain ⟨m0, m1⟩ := mul_bdU a b (by omega) (by omega) (by omega) (by omega)
  go_enter Try.func48, Try.ntmps48
  go_wp2_with fail
  refine (value_u a a0 a1 _).mono ?_
  rintro e w' ⟨rfl, rfl⟩
  go_wp2_with fail
  refine (value_u b b0 b1 _).mono ?_
  rintro e w' ⟨rfl, rfl⟩
  go_wp2_with fail
  refine (fit_u _ (by omega) (by omega) _).mono ?_
  rintro e w' ⟨rfl, rfl⟩
  go_wp2_with fail
  go_ret2
  exact ⟨by simp [D], rfl⟩
end Go.Proofs.Ytcecjjjehhjldaa
