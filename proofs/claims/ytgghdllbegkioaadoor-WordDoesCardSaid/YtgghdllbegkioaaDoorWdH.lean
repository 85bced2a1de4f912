/- What becomes of two words, op by op; and what the law's helper 'does' answers. -/
import Derived.Test.YtgghdllbegkioaaDoorWdG
namespace Go.Proofs.YtgghdllbegkioaaDoor
open Go.RowKit
set_option maxHeartbeats 400000
set_option linter.unusedVariables false

theorem D_1 (a b : Int) : D 1 a b = fS (sg a + sg b) := by simp [D]
theorem D_2 (a b : Int) : D 2 a b = fS (sg a - sg b) := by simp [D]
theorem D_3 (a b : Int) : D 3 a b = fS (sg a * sg b) := by simp [D]
theorem D_4 (a b : Int) : D 4 a b = (if b = 0 then (0, 4) else fS ((sg a).tdiv (sg b))) := by simp [D]
theorem D_5 (a b : Int) : D 5 a b = (if b = 0 then (0, 4) else fS ((sg a).tmod (sg b))) := by simp [D]
theorem D_6 (a b : Int) : D 6 a b = fS (-(sg a)) := by simp [D]
theorem D_7 (a b : Int) : D 7 a b = fS (if sg a < 0 then -(sg a) else sg a) := by simp [D]
theorem D_8 (a b : Int) : D 8 a b = fU (a + b) := by simp [D]
theorem D_9 (a b : Int) : D 9 a b = fU (a - b) := by simp [D]
theorem D_10 (a b : Int) : D 10 a b = fU (a * b) := by simp [D]
theorem D_11 (a b : Int) : D 11 a b = (if b = 0 then (0, 4) else (a / b, 0)) := by simp [D]
theorem D_12 (a b : Int) : D 12 a b = (if b = 0 then (0, 4) else (a % b, 0)) := by simp [D]
theorem D_13 (a b : Int) : D 13 a b = ask (decide (a = b)) := by simp [D]
theorem D_14 (a b : Int) : D 14 a b = ask (decide (a ≠ b)) := by simp [D]
theorem D_15 (a b : Int) : D 15 a b = ask (decide (sg a < sg b)) := by simp [D]
theorem D_16 (a b : Int) : D 16 a b = ask (decide (sg a ≤ sg b)) := by simp [D]
theorem D_17 (a b : Int) : D 17 a b = ask (decide (sg b < sg a)) := by simp [D]
theorem D_18 (a b : Int) : D 18 a b = ask (decide (sg b ≤ sg a)) := by simp [D]
theorem D_19 (a b : Int) : D 19 a b = ask (decide (a < b)) := by simp [D]
theorem D_20 (a b : Int) : D 20 a b = ask (decide (a ≤ b)) := by simp [D]
theorem D_21 (a b : Int) : D 21 a b = ask (decide (b < a)) := by simp [D]
theorem D_22 (a b : Int) : D 22 a b = ask (decide (b ≤ a)) := by simp [D]
theorem D_23 (a b : Int) : D 23 a b = ask (decide (a = 0)) := by simp [D]
theorem D_24 (a b : Int) : D 24 a b = (((a.toNat ||| b.toNat : Nat) : Int), 0) := by simp [D]
theorem D_25 (a b : Int) : D 25 a b = (((a.toNat &&& (65535 - b.toNat) : Nat) : Int), 0) := by simp [D]
theorem D_26 (a b : Int) : D 26 a b = (((a.toNat &&& b.toNat : Nat) : Int), 0) := by simp [D]
theorem D_27 (a b : Int) : D 27 a b = (((a.toNat ^^^ b.toNat : Nat) : Int), 0) := by simp [D]
theorem D_28 (a b : Int) : D 28 a b = ask (bitAt a b) := by simp [D]
theorem D_29 (a b : Int) : D 29 a b = ask (decide (a.toNat &&& (65535 - b.toNat) = 0)) := by simp [D]
theorem D_30 (a b : Int) : D 30 a b = rowP a a := by simp [D]
theorem D_31 (a b : Int) : D 31 a b = rowP a b := by simp [D]

/-- 'does' answered x and whether there was no trap; no block that was there has turned. -/
def RetD (x : Int) (t : Bool) (w : World) (e : Ending) (w' : World) : Prop := e = .returned (.tuple #[.int .u16 x, .bool t]) ∧ Below w.heap.size w w'

theorem ret_d {p q : Int} {s t : Bool} (h : p = q) (g : s = t) : Ending.returned (.tuple #[.int .u16 p, .bool s]) = Ending.returned (.tuple #[.int .u16 q, .bool t]) := by rw [h, g]

theorem does_is (op a b x : Int) (t : Bool) (h0 : 0 ≤ op) (h1 : op ≤ 255) (a0 : 0 ≤ a) (a1 : a ≤ 65535) (b0 : 0 ≤ b) (b1 : b ≤ 65535) (hx : (D op a b).1 = x) (ht : ((D op a b).2 == 0) = t) (w : World) :
    Calls Tryd.prog 22 #[.int .u8 op, .int .u16 a, .int .u16 b] w (RetD x t w) := by
  have HX := Lib.hid hx
  have HT := Lib.hid ht
  clear hx ht
  go_enter Tryd.func22, Tryd.ntmps22
  go_wp2_with fail
  refine (Does_any op a b h0 h1 a0 a1 b0 b1 _).mono ?_
  rintro e w1 ⟨rfl, hb⟩
  go_wp2_with fail
  go_ret2
  exact ⟨ret_d HX.out HT.out, hb⟩

theorem fS_in {n : Int} (h0 : -32768 ≤ n) (h1 : n ≤ 32767) : fS n = (n % 65536, 0) := by unfold fS; rw [if_pos ⟨h0, h1⟩]
theorem fS_out {n : Int} (h : n < -32768 ∨ 32767 < n) : fS n = (0, 1) := by unfold fS; rw [if_neg (by omega)]
theorem fU_in {n : Int} (h0 : 0 ≤ n) (h1 : n ≤ 65535) : fU n = (n, 0) := by unfold fU; rw [if_pos ⟨h0, h1⟩]
theorem fU_out {n : Int} (h : n < 0 ∨ 65535 < n) : fU n = (0, 1) := by unfold fU; rw [if_neg (by omega)]
theorem sg_mod {n : Int} (h0 : -32768 ≤ n) (h1 : n ≤ 32767) : sg (n % 65536) = n := by unfold sg; split <;> omega
theorem sg_lo {a : Int} (h : a < 32768) : sg a = a := by unfold sg; rw [if_pos h]
theorem sg_hi {a : Int} (h : 32768 ≤ a) : sg a = a - 65536 := by unfold sg; rw [if_neg (by omega)]
theorem ask_is1 {op a b : Int} {p : Prop} [Decidable p] (hD : D op a b = ask (decide p)) (h : p) : (D op a b).1 = 1 := by rw [hD]; simp [ask, h]
theorem ask_is0 {op a b : Int} {p : Prop} [Decidable p] (hD : D op a b = ask (decide p)) (h : ¬ p) : (D op a b).1 = 0 := by rw [hD]; simp [ask, h]
theorem ask_ok {op a b : Int} {q : Bool} (hD : D op a b = ask q) : ((D op a b).2 == 0) = true := by rw [hD]; rfl
end Go.Proofs.YtgghdllbegkioaaDoor
