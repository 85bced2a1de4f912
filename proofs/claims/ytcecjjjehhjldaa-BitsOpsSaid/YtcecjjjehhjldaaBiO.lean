/- BitsOps, walked: what a machine's words make of sets, by layer 1 of the program. -/
import Derived.Test.YtcecjjjehhjldaaBiH
import Derived.Test.YtcecjjjehhjldaaWdF
import Derived.Deep.DeepCutAuto
namespace Go.Proofs.Ytcecjjjehhjldaa
open Go.RowKit
set_option maxHeartbeats 2000000
set_option maxRecDepth 100000
set_option linter.unusedVariables false

theorem does_val (op a b x : Int) (h0 : 0 ≤ op) (h1 : op ≤ 255) (a0 : 0 ≤ a) (a1 : a ≤ 65535) (b0 : 0 ≤ b) (b1 : b ≤ 65535) (hx : (D op a b).1 = x) (w : World) :
    Calls Try.prog 22 #[.int .u8 op, .int .u16 a, .int .u16 b] w fun e w' => ∃ t, e = .returned (.tuple #[.int .u16 x, .int .u8 t]) ∧ Below w.heap.size w w' := by
  subst hx
  exact (Does_any op a b h0 h1 a0 a1 b0 b1 w).mono fun e w' ⟨he, hb⟩ => ⟨_, he, hb⟩
theorem row_is : ∀ x y : Fin 16, rowN x.val y.val = setOf (inRow (x.val : Int) (y.val : Int)) 16 := by decide +kernel
theorem o_row (x y : Nat) (hx : x < 16) (hy : y < 16) : (D 31 (x : Int) (y : Int)).1 = rowI (x : Int) (y : Int) 16 := by
  have h : D 31 (x : Int) (y : Int) = rowP x y := by simp [D]
  rw [h]; unfold rowP rowI
  rw [if_neg (by omega), Int.toNat_natCast, Int.toNat_natCast, row_is ⟨x, hx⟩ ⟨y, hy⟩]
theorem uni_one (i : Int) : uniI [i] = oneI i := by
  unfold uniI oneI uni; simp [uniO]
theorem o_one (x : Nat) (hx : x < 16) : (D 30 (x : Int) 0).1 = orI 0 (uniI [(x : Int)]) := by
  have h : D 30 (x : Int) 0 = rowP x x := by simp [D]
  have e : rowN x x = 2 ^ x := by unfold rowN; rw [if_pos (Nat.le_refl x), Nat.pow_succ]; omega
  rw [h, uni_one, one_in x hx]; unfold rowP orI
  rw [if_neg (by omega), Int.toNat_natCast, e]
  simp only [Int.toNat_natCast, Int.toNat_zero, Nat.zero_or]
theorem o_in (x : Nat) (hx : x < 16) (s : Int) : ((D 28 (x : Int) s).1 == 1) = hasI s (x : Int) := by
  have h : D 28 (x : Int) s = ask (bitAt x s) := by simp [D]
  rw [h, has_bit s x hx]; unfold bitAt
  rw [Int.toNat_natCast, decide_eq_true (show (x : Int) ≤ 15 by omega), Bool.true_and]
  cases s.toNat.testBit x <;> rfl
theorem o_part (s t : Int) : ((D 29 s t).1 == 1) = partI s t := by
  have h : D 29 s t = ask (partI s t) := by simp [D]; rfl
  rw [h]
  cases partI s t <;> rfl
theorem o_or (s t : Int) : (D 24 s t).1 = orI s t := by simp [D, orI]
theorem o_less (s t : Int) : (D 25 s t).1 = lessI s t := by simp [D, lessI, lessN]
theorem o_and (s t : Int) (s0 : 0 ≤ s) (s1 : s ≤ 65535) (t0 : 0 ≤ t) (t1 : t ≤ 65535) : (D 26 s t).1 = lessI s (lessI s t) := by
  have h : D 26 s t = (((s.toNat &&& t.toNat : Nat) : Int), 0) := by simp [D]
  obtain ⟨l0, l1⟩ := lessI_bd s t s0 s1
  obtain ⟨m0, m1⟩ := lessI_bd s (lessI s t) s0 s1
  have key : s.toNat &&& t.toNat = (lessI s (lessI s t)).toNat := set_ext _ _ (Nat.lt_of_le_of_lt Nat.and_le_left (by omega)) (by omega) fun k hk => by
    rw [less_bit s _ l0 l1 k hk, less_bit s t t0 t1 k hk, Nat.testBit_and]
    cases s.toNat.testBit k <;> cases t.toNat.testBit k <;> rfl
  rw [h]; simp only; rw [key]; omega
theorem uni_all (t : Int) (t0 : 0 ≤ t) (t1 : t ≤ 65535) : uniI (elI t 16) = t := by
  unfold uniI elI
  rw [uni_elems t.toNat (by omega)]; omega

theorem With_of (s t : Int) (s0 : 0 ≤ s) (s1 : s ≤ 65535) (t0 : 0 ≤ t) (t1 : t ≤ 65535) (m : List Int) (hm : elI t 16 = m) (w : World) (ao : Option Addr) (cap : Nat) (h : IntsIn w ao m) :
    Calls Try.prog 10 #[.int .u16 s, .slice ao m.length cap] w fun e w' => e = .returned (.int .u16 (orI s t)) ∧ w = w' := by
  subst hm
  have := With_any s s0 s1 ao cap (elI t 16) (by have := elI_len t 16; omega) w h (elI_ok t)
  rw [uni_all t t0 t1] at this
  exact this
theorem Without_of (s t : Int) (s0 : 0 ≤ s) (s1 : s ≤ 65535) (t0 : 0 ≤ t) (t1 : t ≤ 65535) (m : List Int) (hm : elI t 16 = m) (w : World) (ao : Option Addr) (cap : Nat) (h : IntsIn w ao m) :
    Calls Try.prog 12 #[.int .u16 s, .slice ao m.length cap] w fun e w' => e = .returned (.int .u16 (lessI s t)) ∧ w = w' := by
  subst hm
  have := Without_any s s0 s1 ao cap (elI t 16) (by have := elI_len t 16; omega) w h (elI_ok t)
  rw [uni_all t t0 t1] at this
  exact this
/-- A call that answers a list of its own that holds m. -/
def Lists (s : Int) (m : List Int) : Prop := ∀ w, Calls Try.prog 17 #[.int .u16 s] w fun e w' => ∃ ao cap, e = .returned (.slice ao m.length cap) ∧ IntsIn w' ao m ∧ Below w.heap.size w w'
theorem lists (s : Int) (s0 : 0 ≤ s) (s1 : s ≤ 65535) (m : List Int) (hm : elI s 16 = m) : Lists s m := fun w => by
  subst hm
  refine (All_any s s0 s1 w).mono ?_
  rintro e w' ⟨v, rfl, hv, hb⟩
  obtain ⟨ao, cap, rfl, hin⟩ := hv.read
  exact ⟨ao, cap, rfl, hin, hb⟩
/-- A call that answers x, beside a trap that nobody asks for. -/
def Val (op a b x : Int) : Prop := ∀ w, Calls Try.prog 22 #[.int .u8 op, .int .u16 a, .int .u16 b] w fun e w' => ∃ t, e = .returned (.tuple #[.int .u16 x, .int .u8 t]) ∧ Below w.heap.size w w'

theorem ops_walk (s t i k x y r o q q2 g d n : Int) (c c2 : Bool) (m m2 : List Int) (s0 : 0 ≤ s) (s1 : s ≤ 65535) (t0 : 0 ≤ t) (t1 : t ≤ 65535) (i0 : 0 ≤ i) (i1 : i ≤ 255) (k0 : 0 ≤ k) (k1 : k ≤ 255)
    (hx : Hid (i % 16 = x)) (hy : Hid (k % 16 = y)) (x0 : 0 ≤ x) (x1 : x ≤ 15) (y0 : 0 ≤ y) (y1 : y ≤ 15)
    (V1 : Hid (Val 31 x y r)) (V2 : Hid (Val 30 x 0 o)) (V3 : Hid (Val 28 x s q)) (V4 : Hid (Val 29 s t q2)) (V5 : Hid (Val 24 s t g)) (V6 : Hid (Val 26 s t n)) (V7 : Hid (Val 25 s t d))
    (C1 : Hid (∀ w, Calls Try.prog 20 #[.int .i64 x, .int .i64 y] w fun e w' => e = .returned (.int .u16 r) ∧ w = w'))
    (C2 : Hid (∀ w ao cap, IntsIn w ao [x] → Calls Try.prog 10 #[.int .u16 0, .slice ao 1 cap] w fun e w' => e = .returned (.int .u16 o) ∧ w = w'))
    (C3 : Hid (∀ w, Calls Try.prog 8 #[.int .u16 s, .int .i64 x] w fun e w' => e = .returned (.bool c) ∧ w = w')) (F3 : (q == 1) = c)
    (C4 : Hid (∀ w, Calls Try.prog 18 #[.int .u16 s, .int .u16 t] w fun e w' => e = .returned (.bool c2) ∧ w = w')) (F4 : (q2 == 1) = c2)
    (C5 : Hid (Lists t m)) (C6 : Hid (∀ w ao cap, IntsIn w ao m → Calls Try.prog 10 #[.int .u16 s, .slice ao m.length cap] w fun e w' => e = .returned (.int .u16 g) ∧ w = w'))
    (C7 : Hid (∀ w ao cap, IntsIn w ao m → Calls Try.prog 12 #[.int .u16 s, .slice ao m.length cap] w fun e w' => e = .returned (.int .u16 d) ∧ w = w'))
    (C8 : Hid (Lists d m2)) (C9 : Hid (∀ w ao cap, IntsIn w ao m2 → Calls Try.prog 12 #[.int .u16 s, .slice ao m2.length cap] w fun e w' => e = .returned (.int .u16 n) ∧ w = w')) (w : World) :
    Calls Try.prog 6 #[.int .u16 s, .int .u16 t, .int .u8 i, .int .u8 k] w fun e w' => e = .returned (.bool true) ∧ Below w.heap.size w w' := by
  go_enter Try.func6, Try.ntmps6
  go_wp2_with fail
  rw [hx.out, hy.out]
  refine (V1.out _).mono ?_
  rintro e w1 ⟨t1, rfl, hb1⟩
  go_wp2_with fail
  refine (V2.out _).mono ?_
  rintro e w2 ⟨t2, rfl, hb2⟩
  replace hb2 := bt hb1 hb2
  clear hb1
  go_wp2_with fail
  refine (V3.out _).mono ?_
  rintro e w3 ⟨t3, rfl, hb3⟩
  replace hb3 := bt hb2 hb3
  clear hb2
  go_wp2_with fail
  refine (V4.out _).mono ?_
  rintro e w4 ⟨t4, rfl, hb4⟩
  replace hb4 := bt hb3 hb4
  clear hb3
  go_wp2_with fail
  refine (V5.out _).mono ?_
  rintro e w5 ⟨t5, rfl, hb5⟩
  replace hb5 := bt hb4 hb5
  clear hb4
  go_wp2_with fail
  refine (V6.out _).mono ?_
  rintro e w6 ⟨t6, rfl, hb6⟩
  replace hb6 := bt hb5 hb6
  clear hb5
  go_wp2_with fail
  refine (V7.out _).mono ?_
  rintro e w7 ⟨t7, rfl, hb7⟩
  replace hb7 := bt hb6 hb7
  clear hb6 V1 V2 V3 V4 V5 V6 V7
  go_wp2_with fail
  refine (C1.out _).mono ?_
  rintro e w' ⟨rfl, rfl⟩
  go_wp2_with fail
  refine (C2.out _ _ _ ?_).mono ?_
  · exact ints_built w7 [x]
  rintro e w' ⟨rfl, rfl⟩
  have hb8 := bt hb7 (below_new w7 (.cells #[.int .i64 x] 3))
  generalize w7.alloc (.cells #[.int .i64 x] 3) = w8 at *
  clear hb7
  go_wp2_with fail
  refine (C3.out _).mono ?_
  rintro e w' ⟨rfl, rfl⟩
  go_wp2_with fail
  refine (C4.out _).mono ?_
  rintro e w' ⟨rfl, rfl⟩
  go_wp2_with fail
  refine (C5.out _).mono ?_
  rintro e w9 ⟨ao1, cap1, rfl, hin1, hb9⟩
  replace hb9 := bt hb8 hb9
  clear hb8
  go_wp2_with fail
  refine (C6.out _ _ _ hin1).mono ?_
  rintro e w' ⟨rfl, rfl⟩
  clear hin1
  go_wp2_with fail
  refine (C5.out _).mono ?_
  rintro e w10 ⟨ao2, cap2, rfl, hin2, hb10⟩
  replace hb10 := bt hb9 hb10
  clear hb9
  go_wp2_with fail
  refine (C7.out _ _ _ hin2).mono ?_
  rintro e w' ⟨rfl, rfl⟩
  clear hin2
  go_wp2_with fail
  refine (C8.out _).mono ?_
  rintro e w11 ⟨ao3, cap3, rfl, hin3, hb11⟩
  replace hb11 := bt hb10 hb11
  clear hb10
  go_wp2_with fail
  refine (C9.out _ _ _ hin3).mono ?_
  rintro e w' ⟨rfl, rfl⟩
  clear hin3
  go_wp2_with fail
  refine (alive_any _).mono ?_
  rintro e w12 ⟨rfl, hb12⟩
  go_wp2_with fail
  go_ret
  exact ⟨rfl, bt hb11 hb12⟩

theorem ops_end (s t i k : Int) (s0 : 0 ≤ s) (s1 : s ≤ 65535) (t0 : 0 ≤ t) (t1 : t ≤ 65535) (i0 : 0 ≤ i) (i1 : i ≤ 255) (k0 : 0 ≤ k) (k1 : k ≤ 255) (w : World) :
    Calls Try.prog 6 #[.int .u16 s, .int .u16 t, .int .u8 i, .int .u8 k] w fun e w' => e = .returned (.bool true) ∧ Below w.heap.size w w' := by
  obtain ⟨x, hx⟩ := Int.eq_ofNat_of_zero_le (show 0 ≤ i % 16 by omega)
  obtain ⟨y, hy⟩ := Int.eq_ofNat_of_zero_le (show 0 ≤ k % 16 by omega)
  have hx1 : x < 16 := by omega
  have hy1 : y < 16 := by omega
  obtain ⟨l0, l1⟩ := lessI_bd s t s0 s1
  refine ops_walk s t i k x y (rowI x y 16) (orI 0 (uniI [(x : Int)])) (D 28 x s).1 (D 29 s t).1 (orI s t) (lessI s t) (lessI s (lessI s t)) (hasI s x) (partI s t) (elI t 16) (elI (lessI s t) 16) s0 s1 t0 t1 i0 i1 k0 k1
    (Lib.hid hx) (Lib.hid hy) (by omega) (by omega) (by omega) (by omega)
    (Lib.hid (does_val 31 x y _ (by omega) (by omega) (by omega) (by omega) (by omega) (by omega) (o_row x y hx1 hy1)))
    (Lib.hid (does_val 30 x 0 _ (by omega) (by omega) (by omega) (by omega) (by omega) (by omega) (o_one x hx1)))
    (Lib.hid (does_val 28 x s _ (by omega) (by omega) (by omega) (by omega) s0 s1 rfl))
    (Lib.hid (does_val 29 s t _ (by omega) (by omega) s0 s1 t0 t1 rfl))
    (Lib.hid (does_val 24 s t _ (by omega) (by omega) s0 s1 t0 t1 (o_or s t)))
    (Lib.hid (does_val 26 s t _ (by omega) (by omega) s0 s1 t0 t1 (o_and s t s0 s1 t0 t1)))
    (Lib.hid (does_val 25 s t _ (by omega) (by omega) s0 s1 t0 t1 (o_less s t)))
    (Lib.hid fun w => Row_any x y (by omega) (by omega) (by omega) (by omega) w)
    (Lib.hid fun w ao cap h => With_any 0 (by omega) (by omega) ao cap [(x : Int)] (by simp) w h (ok_one1 x (by omega) (by omega)))
    (Lib.hid fun w => Has_any s x s0 s1 (by omega) (by omega) w) (o_in x hx1 s)
    (Lib.hid fun w => Part_any s t s0 s1 t0 t1 w) (o_part s t)
    (Lib.hid (lists t t0 t1 _ rfl)) (Lib.hid fun w ao cap h => With_of s t s0 s1 t0 t1 _ rfl w ao cap h) (Lib.hid fun w ao cap h => Without_of s t s0 s1 t0 t1 _ rfl w ao cap h)
    (Lib.hid (lists _ l0 l1 _ rfl)) (Lib.hid fun w ao cap h => Without_of s _ s0 s1 l0 l1 _ rfl w ao cap h) w
end Go.Proofs.Ytcecjjjehhjldaa
