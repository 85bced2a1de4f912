/- find, Does, Takes, Of, Int, Within of package word, walked. -/
import Derived.Test.YtcecjjjehhjldaaWdB
import Derived.Test.YtcecjjjehhjldaaWdE
namespace Go.Proofs.Ytcecjjjehhjldaa
open Go.RowKit
set_option maxHeartbeats 400000
set_option linter.unusedVariables false


theorem find_any (op : Int) (h0 : 1 ≤ op) (h1 : op ≤ 31) (w : World) :
    Calls Try.prog 27 #[.int .u8 op] w fun e w' => e = .returned (.func (.func (fnNum op)) #[] #[]) ∧ Below w.heap.size w w' := by
  have h : op ≤ 7 ∨ (8 ≤ op ∧ op ≤ 12) ∨ (13 ≤ op ∧ op ≤ 18) ∨ (19 ≤ op ∧ op ≤ 23) ∨ 24 ≤ op := by omega
  rcases h with h | ⟨h, k⟩ | ⟨h, k⟩ | ⟨h, k⟩ | h
  · go_enter Try.func27, Try.ntmps27
    go_wp2_with fail
    refine (integers_any op (by omega) (by omega) _).mono ?_
    rintro e w' ⟨rfl, hb⟩
    go_wp2_with fail
    go_ret
    exact ⟨rfl, hb⟩
  · go_enter Try.func27, Try.ntmps27
    go_wp2_with fail
    refine (cardinals_any op (by omega) (by omega) _).mono ?_
    rintro e w' ⟨rfl, hb⟩
    go_wp2_with fail
    go_ret
    exact ⟨rfl, hb⟩
  · go_enter Try.func27, Try.ntmps27
    go_wp2_with fail
    refine (integerQuestions_any op (by omega) (by omega) _).mono ?_
    rintro e w' ⟨rfl, hb⟩
    go_wp2_with fail
    go_ret
    exact ⟨rfl, hb⟩
  · go_enter Try.func27, Try.ntmps27
    go_wp2_with fail
    refine (cardinalQuestions_any op (by omega) (by omega) _).mono ?_
    rintro e w' ⟨rfl, hb⟩
    go_wp2_with fail
    go_ret
    exact ⟨rfl, hb⟩
  · go_enter Try.func27, Try.ntmps27
    go_wp2_with fail
    refine (sets_any op (by omega) (by omega) _).mono ?_
    rintro e w' ⟨rfl, hb⟩
    go_wp2_with fail
    go_ret
    exact ⟨rfl, hb⟩

theorem find_nil (op : Int) (h0 : 0 ≤ op) (h1 : op ≤ 255) (h : op = 0 ∨ 32 ≤ op) (w : World) :
    Calls Try.prog 27 #[.int .u8 op] w fun e w' => e = .returned .nilFunc ∧ Below w.heap.size w w' := by
  rcases h with rfl | h
  · go_enter Try.func27, Try.ntmps27
    go_wp2_with fail
    refine (integers_nil 0 rfl _).mono ?_
    rintro e w' ⟨rfl, hb⟩
    go_wp2_with fail
    go_ret
    exact ⟨rfl, hb⟩
  · go_enter Try.func27, Try.ntmps27
    go_wp2_with fail
    refine (sets_nil op h h1 _).mono ?_
    rintro e w' ⟨rfl, hb⟩
    go_wp2_with fail
    go_ret
    exact ⟨rfl, hb⟩

/-- What Does answers; no block that was there has turned. -/
def RetB (p : Int × Int) (w : World) (e : Ending) (w' : World) : Prop := e = .returned (.tuple #[.int .u16 p.1, .int .u8 p.2]) ∧ Below w.heap.size w w'

theorem D_none (op a b : Int) (h : op = 0 ∨ 32 ≤ op) : D op a b = (0, 12) := by
  have h1 : ∀ k : Int, 1 ≤ k → k ≤ 31 → op ≠ k := by intro k _ _; omega
  unfold D
  rw [if_neg (h1 1 (by omega) (by omega))]
  rw [if_neg (h1 2 (by omega) (by omega))]
  rw [if_neg (h1 3 (by omega) (by omega))]
  rw [if_neg (h1 4 (by omega) (by omega))]
  rw [if_neg (h1 5 (by omega) (by omega))]
  rw [if_neg (h1 6 (by omega) (by omega))]
  rw [if_neg (h1 7 (by omega) (by omega))]
  rw [if_neg (h1 8 (by omega) (by omega))]
  rw [if_neg (h1 9 (by omega) (by omega))]
  rw [if_neg (h1 10 (by omega) (by omega))]
  rw [if_neg (h1 11 (by omega) (by omega))]
  rw [if_neg (h1 12 (by omega) (by omega))]
  rw [if_neg (h1 13 (by omega) (by omega))]
  rw [if_neg (h1 14 (by omega) (by omega))]
  rw [if_neg (h1 15 (by omega) (by omega))]
  rw [if_neg (h1 16 (by omega) (by omega))]
  rw [if_neg (h1 17 (by omega) (by omega))]
  rw [if_neg (h1 18 (by omega) (by omega))]
  rw [if_neg (h1 19 (by omega) (by omega))]
  rw [if_neg (h1 20 (by omega) (by omega))]
  rw [if_neg (h1 21 (by omega) (by omega))]
  rw [if_neg (h1 22 (by omega) (by omega))]
  rw [if_neg (h1 23 (by omega) (by omega))]
  rw [if_neg (h1 24 (by omega) (by omega))]
  rw [if_neg (h1 25 (by omega) (by omega))]
  rw [if_neg (h1 26 (by omega) (by omega))]
  rw [if_neg (h1 27 (by omega) (by omega))]
  rw [if_neg (h1 28 (by omega) (by omega))]
  rw [if_neg (h1 29 (by omega) (by omega))]
  rw [if_neg (h1 30 (by omega) (by omega))]
  rw [if_neg (h1 31 (by omega) (by omega))]

theorem eqNil (w : World) : (binOp BinOp.eql 43 .nilFunc .nilFunc).run Try.prog w = .ok (.bool true) w := by kernel_rfl
theorem eqFn (f : Nat) (w : World) : (binOp BinOp.eql 43 (.func (.func f) #[] #[]) .nilFunc).run Try.prog w = .ok (.bool false) w := by kernel_rfl


theorem Does_1 (a b : Int) (a0 : 0 ≤ a) (a1 : a ≤ 65535) (b0 : 0 ≤ b) (b1 : b ≤ 65535) (w : World) :
    Calls Try.prog 22 #[.int .u8 1, .int .u16 a, .int .u16 b] w (RetB (D 1 a b) w) := by
  have hfn := eqFn
  have hf : fnNum 1 = 33 := by kernel_rfl
  have HF := Lib.hid hf
  clear hf
  go_enter Try.func22, Try.ntmps22
  go_wp2_with fail
  refine (find_any 1 (by omega) (by omega) _).mono ?_
  rintro e w' ⟨rfl, hb⟩
  rw [HF.out]
  go_wp2_with fail
  refine (c_iadd a b a0 a1 b0 b1 _).mono ?_
  rintro e w' ⟨rfl, rfl⟩
  go_wp2_with fail
  go_ret2
  exact ⟨rfl, hb⟩

theorem Does_2 (a b : Int) (a0 : 0 ≤ a) (a1 : a ≤ 65535) (b0 : 0 ≤ b) (b1 : b ≤ 65535) (w : World) :
    Calls Try.prog 22 #[.int .u8 2, .int .u16 a, .int .u16 b] w (RetB (D 2 a b) w) := by
  have hfn := eqFn
  have hf : fnNum 2 = 36 := by kernel_rfl
  have HF := Lib.hid hf
  clear hf
  go_enter Try.func22, Try.ntmps22
  go_wp2_with fail
  refine (find_any 2 (by omega) (by omega) _).mono ?_
  rintro e w' ⟨rfl, hb⟩
  rw [HF.out]
  go_wp2_with fail
  refine (c_isub a b a0 a1 b0 b1 _).mono ?_
  rintro e w' ⟨rfl, rfl⟩
  go_wp2_with fail
  go_ret2
  exact ⟨rfl, hb⟩

theorem Does_3 (a b : Int) (a0 : 0 ≤ a) (a1 : a ≤ 65535) (b0 : 0 ≤ b) (b1 : b ≤ 65535) (w : World) :
    Calls Try.prog 22 #[.int .u8 3, .int .u16 a, .int .u16 b] w (RetB (D 3 a b) w) := by
  have hfn := eqFn
  have hf : fnNum 3 = 37 := by kernel_rfl
  have HF := Lib.hid hf
  clear hf
  go_enter Try.func22, Try.ntmps22
  go_wp2_with fail
  refine (find_any 3 (by omega) (by omega) _).mono ?_
  rintro e w' ⟨rfl, hb⟩
  rw [HF.out]
  go_wp2_with fail
  refine (c_imul a b a0 a1 b0 b1 _).mono ?_
  rintro e w' ⟨rfl, rfl⟩
  go_wp2_with fail
  go_ret2
  exact ⟨rfl, hb⟩

theorem Does_4 (a b : Int) (a0 : 0 ≤ a) (a1 : a ≤ 65535) (b0 : 0 ≤ b) (b1 : b ≤ 65535) (w : World) :
    Calls Try.prog 22 #[.int .u8 4, .int .u16 a, .int .u16 b] w (RetB (D 4 a b) w) := by
  have hfn := eqFn
  have hf : fnNum 4 = 38 := by kernel_rfl
  have HF := Lib.hid hf
  clear hf
  go_enter Try.func22, Try.ntmps22
  go_wp2_with fail
  refine (find_any 4 (by omega) (by omega) _).mono ?_
  rintro e w' ⟨rfl, hb⟩
  rw [HF.out]
  go_wp2_with fail
  refine (c_idiv a b a0 a1 b0 b1 _).mono ?_
  rintro e w' ⟨rfl, rfl⟩
  go_wp2_with fail
  go_ret2
  exact ⟨rfl, hb⟩

theorem Does_5 (a b : Int) (a0 : 0 ≤ a) (a1 : a ≤ 65535) (b0 : 0 ≤ b) (b1 : b ≤ 65535) (w : World) :
    Calls Try.prog 22 #[.int .u8 5, .int .u16 a, .int .u16 b] w (RetB (D 5 a b) w) := by
  have hfn := eqFn
  have hf : fnNum 5 = 40 := by kernel_rfl
  have HF := Lib.hid hf
  clear hf
  go_enter Try.func22, Try.ntmps22
  go_wp2_with fail
  refine (find_any 5 (by omega) (by omega) _).mono ?_
  rintro e w' ⟨rfl, hb⟩
  rw [HF.out]
  go_wp2_with fail
  refine (c_imod a b a0 a1 b0 b1 _).mono ?_
  rintro e w' ⟨rfl, rfl⟩
  go_wp2_with fail
  go_ret2
  exact ⟨rfl, hb⟩

theorem Does_6 (a b : Int) (a0 : 0 ≤ a) (a1 : a ≤ 65535) (b0 : 0 ≤ b) (b1 : b ≤ 65535) (w : World) :
    Calls Try.prog 22 #[.int .u8 6, .int .u16 a, .int .u16 b] w (RetB (D 6 a b) w) := by
  have hfn := eqFn
  have hf : fnNum 6 = 42 := by kernel_rfl
  have HF := Lib.hid hf
  clear hf
  go_enter Try.func22, Try.ntmps22
  go_wp2_with fail
  refine (find_any 6 (by omega) (by omega) _).mono ?_
  rintro e w' ⟨rfl, hb⟩
  rw [HF.out]
  go_wp2_with fail
  refine (c_ineg a b a0 a1 b0 b1 _).mono ?_
  rintro e w' ⟨rfl, rfl⟩
  go_wp2_with fail
  go_ret2
  exact ⟨rfl, hb⟩

theorem Does_7 (a b : Int) (a0 : 0 ≤ a) (a1 : a ≤ 65535) (b0 : 0 ≤ b) (b1 : b ≤ 65535) (w : World) :
    Calls Try.prog 22 #[.int .u8 7, .int .u16 a, .int .u16 b] w (RetB (D 7 a b) w) := by
  have hfn := eqFn
  have hf : fnNum 7 = 43 := by kernel_rfl
  have HF := Lib.hid hf
  clear hf
  go_enter Try.func22, Try.ntmps22
  go_wp2_with fail
  refine (find_any 7 (by omega) (by omega) _).mono ?_
  rintro e w' ⟨rfl, hb⟩
  rw [HF.out]
  go_wp2_with fail
  refine (c_iabs a b a0 a1 b0 b1 _).mono ?_
  rintro e w' ⟨rfl, rfl⟩
  go_wp2_with fail
  go_ret2
  exact ⟨rfl, hb⟩

theorem Does_8 (a b : Int) (a0 : 0 ≤ a) (a1 : a ≤ 65535) (b0 : 0 ≤ b) (b1 : b ≤ 65535) (w : World) :
    Calls Try.prog 22 #[.int .u8 8, .int .u16 a, .int .u16 b] w (RetB (D 8 a b) w) := by
  have hfn := eqFn
  have hf : fnNum 8 = 44 := by kernel_rfl
  have HF := Lib.hid hf
  clear hf
  go_enter Try.func22, Try.ntmps22
  go_wp2_with fail
  refine (find_any 8 (by omega) (by omega) _).mono ?_
  rintro e w' ⟨rfl, hb⟩
  rw [HF.out]
  go_wp2_with fail
  refine (c_cadd a b a0 a1 b0 b1 _).mono ?_
  rintro e w' ⟨rfl, rfl⟩
  go_wp2_with fail
  go_ret2
  exact ⟨rfl, hb⟩

theorem Does_9 (a b : Int) (a0 : 0 ≤ a) (a1 : a ≤ 65535) (b0 : 0 ≤ b) (b1 : b ≤ 65535) (w : World) :
    Calls Try.prog 22 #[.int .u8 9, .int .u16 a, .int .u16 b] w (RetB (D 9 a b) w) := by
  have hfn := eqFn
  have hf : fnNum 9 = 47 := by kernel_rfl
  have HF := Lib.hid hf
  clear hf
  go_enter Try.func22, Try.ntmps22
  go_wp2_with fail
  refine (find_any 9 (by omega) (by omega) _).mono ?_
  rintro e w' ⟨rfl, hb⟩
  rw [HF.out]
  go_wp2_with fail
  refine (c_csub a b a0 a1 b0 b1 _).mono ?_
  rintro e w' ⟨rfl, rfl⟩
  go_wp2_with fail
  go_ret2
  exact ⟨rfl, hb⟩

theorem Does_10 (a b : Int) (a0 : 0 ≤ a) (a1 : a ≤ 65535) (b0 : 0 ≤ b) (b1 : b ≤ 65535) (w : World) :
    Calls Try.prog 22 #[.int .u8 10, .int .u16 a, .int .u16 b] w (RetB (D 10 a b) w) := by
  have hfn := eqFn
  have hf : fnNum 10 = 48 := by kernel_rfl
  have HF := Lib.hid hf
  clear hf
  go_enter Try.func22, Try.ntmps22
  go_wp2_with fail
  refine (find_any 10 (by omega) (by omega) _).mono ?_
  rintro e w' ⟨rfl, hb⟩
  rw [HF.out]
  go_wp2_with fail
  refine (c_cmul a b a0 a1 b0 b1 _).mono ?_
  rintro e w' ⟨rfl, rfl⟩
  go_wp2_with fail
  go_ret2
  exact ⟨rfl, hb⟩

theorem Does_11 (a b : Int) (a0 : 0 ≤ a) (a1 : a ≤ 65535) (b0 : 0 ≤ b) (b1 : b ≤ 65535) (w : World) :
    Calls Try.prog 22 #[.int .u8 11, .int .u16 a, .int .u16 b] w (RetB (D 11 a b) w) := by
  have hfn := eqFn
  have hf : fnNum 11 = 49 := by kernel_rfl
  have HF := Lib.hid hf
  clear hf
  go_enter Try.func22, Try.ntmps22
  go_wp2_with fail
  refine (find_any 11 (by omega) (by omega) _).mono ?_
  rintro e w' ⟨rfl, hb⟩
  rw [HF.out]
  go_wp2_with fail
  refine (c_cdiv a b a0 a1 b0 b1 _).mono ?_
  rintro e w' ⟨rfl, rfl⟩
  go_wp2_with fail
  go_ret2
  exact ⟨rfl, hb⟩

theorem Does_12 (a b : Int) (a0 : 0 ≤ a) (a1 : a ≤ 65535) (b0 : 0 ≤ b) (b1 : b ≤ 65535) (w : World) :
    Calls Try.prog 22 #[.int .u8 12, .int .u16 a, .int .u16 b] w (RetB (D 12 a b) w) := by
  have hfn := eqFn
  have hf : fnNum 12 = 51 := by kernel_rfl
  have HF := Lib.hid hf
  clear hf
  go_enter Try.func22, Try.ntmps22
  go_wp2_with fail
  refine (find_any 12 (by omega) (by omega) _).mono ?_
  rintro e w' ⟨rfl, hb⟩
  rw [HF.out]
  go_wp2_with fail
  refine (c_cmod a b a0 a1 b0 b1 _).mono ?_
  rintro e w' ⟨rfl, rfl⟩
  go_wp2_with fail
  go_ret2
  exact ⟨rfl, hb⟩

theorem Does_13 (a b : Int) (a0 : 0 ≤ a) (a1 : a ≤ 65535) (b0 : 0 ≤ b) (b1 : b ≤ 65535) (w : World) :
    Calls Try.prog 22 #[.int .u8 13, .int .u16 a, .int .u16 b] w (RetB (D 13 a b) w) := by
  have hfn := eqFn
  have hf : fnNum 13 = 53 := by kernel_rfl
  have HF := Lib.hid hf
  clear hf
  go_enter Try.func22, Try.ntmps22
  go_wp2_with fail
  refine (find_any 13 (by omega) (by omega) _).mono ?_
  rintro e w' ⟨rfl, hb⟩
  rw [HF.out]
  go_wp2_with fail
  refine (c_eq a b a0 a1 b0 b1 _).mono ?_
  rintro e w' ⟨rfl, rfl⟩
  go_wp2_with fail
  go_ret2
  exact ⟨rfl, hb⟩

theorem Does_14 (a b : Int) (a0 : 0 ≤ a) (a1 : a ≤ 65535) (b0 : 0 ≤ b) (b1 : b ≤ 65535) (w : World) :
    Calls Try.prog 22 #[.int .u8 14, .int .u16 a, .int .u16 b] w (RetB (D 14 a b) w) := by
  have hfn := eqFn
  have hf : fnNum 14 = 55 := by kernel_rfl
  have HF := Lib.hid hf
  clear hf
  go_enter Try.func22, Try.ntmps22
  go_wp2_with fail
  refine (find_any 14 (by omega) (by omega) _).mono ?_
  rintro e w' ⟨rfl, hb⟩
  rw [HF.out]
  go_wp2_with fail
  refine (c_ne a b a0 a1 b0 b1 _).mono ?_
  rintro e w' ⟨rfl, rfl⟩
  go_wp2_with fail
  go_ret2
  exact ⟨rfl, hb⟩

theorem Does_15 (a b : Int) (a0 : 0 ≤ a) (a1 : a ≤ 65535) (b0 : 0 ≤ b) (b1 : b ≤ 65535) (w : World) :
    Calls Try.prog 22 #[.int .u8 15, .int .u16 a, .int .u16 b] w (RetB (D 15 a b) w) := by
  have hfn := eqFn
  have hf : fnNum 15 = 56 := by kernel_rfl
  have HF := Lib.hid hf
  clear hf
  go_enter Try.func22, Try.ntmps22
  go_wp2_with fail
  refine (find_any 15 (by omega) (by omega) _).mono ?_
  rintro e w' ⟨rfl, hb⟩
  rw [HF.out]
  go_wp2_with fail
  refine (c_ilt a b a0 a1 b0 b1 _).mono ?_
  rintro e w' ⟨rfl, rfl⟩
  go_wp2_with fail
  go_ret2
  exact ⟨rfl, hb⟩

theorem Does_16 (a b : Int) (a0 : 0 ≤ a) (a1 : a ≤ 65535) (b0 : 0 ≤ b) (b1 : b ≤ 65535) (w : World) :
    Calls Try.prog 22 #[.int .u8 16, .int .u16 a, .int .u16 b] w (RetB (D 16 a b) w) := by
  have hfn := eqFn
  have hf : fnNum 16 = 58 := by kernel_rfl
  have HF := Lib.hid hf
  clear hf
  go_enter Try.func22, Try.ntmps22
  go_wp2_with fail
  refine (find_any 16 (by omega) (by omega) _).mono ?_
  rintro e w' ⟨rfl, hb⟩
  rw [HF.out]
  go_wp2_with fail
  refine (c_ile a b a0 a1 b0 b1 _).mono ?_
  rintro e w' ⟨rfl, rfl⟩
  go_wp2_with fail
  go_ret2
  exact ⟨rfl, hb⟩

theorem Does_17 (a b : Int) (a0 : 0 ≤ a) (a1 : a ≤ 65535) (b0 : 0 ≤ b) (b1 : b ≤ 65535) (w : World) :
    Calls Try.prog 22 #[.int .u8 17, .int .u16 a, .int .u16 b] w (RetB (D 17 a b) w) := by
  have hfn := eqFn
  have hf : fnNum 17 = 59 := by kernel_rfl
  have HF := Lib.hid hf
  clear hf
  go_enter Try.func22, Try.ntmps22
  go_wp2_with fail
  refine (find_any 17 (by omega) (by omega) _).mono ?_
  rintro e w' ⟨rfl, hb⟩
  rw [HF.out]
  go_wp2_with fail
  refine (c_igt a b a0 a1 b0 b1 _).mono ?_
  rintro e w' ⟨rfl, rfl⟩
  go_wp2_with fail
  go_ret2
  exact ⟨rfl, hb⟩

theorem Does_18 (a b : Int) (a0 : 0 ≤ a) (a1 : a ≤ 65535) (b0 : 0 ≤ b) (b1 : b ≤ 65535) (w : World) :
    Calls Try.prog 22 #[.int .u8 18, .int .u16 a, .int .u16 b] w (RetB (D 18 a b) w) := by
  have hfn := eqFn
  have hf : fnNum 18 = 60 := by kernel_rfl
  have HF := Lib.hid hf
  clear hf
  go_enter Try.func22, Try.ntmps22
  go_wp2_with fail
  refine (find_any 18 (by omega) (by omega) _).mono ?_
  rintro e w' ⟨rfl, hb⟩
  rw [HF.out]
  go_wp2_with fail
  refine (c_ige a b a0 a1 b0 b1 _).mono ?_
  rintro e w' ⟨rfl, rfl⟩
  go_wp2_with fail
  go_ret2
  exact ⟨rfl, hb⟩

theorem Does_19 (a b : Int) (a0 : 0 ≤ a) (a1 : a ≤ 65535) (b0 : 0 ≤ b) (b1 : b ≤ 65535) (w : World) :
    Calls Try.prog 22 #[.int .u8 19, .int .u16 a, .int .u16 b] w (RetB (D 19 a b) w) := by
  have hfn := eqFn
  have hf : fnNum 19 = 61 := by kernel_rfl
  have HF := Lib.hid hf
  clear hf
  go_enter Try.func22, Try.ntmps22
  go_wp2_with fail
  refine (find_any 19 (by omega) (by omega) _).mono ?_
  rintro e w' ⟨rfl, hb⟩
  rw [HF.out]
  go_wp2_with fail
  refine (c_clt a b a0 a1 b0 b1 _).mono ?_
  rintro e w' ⟨rfl, rfl⟩
  go_wp2_with fail
  go_ret2
  exact ⟨rfl, hb⟩

theorem Does_20 (a b : Int) (a0 : 0 ≤ a) (a1 : a ≤ 65535) (b0 : 0 ≤ b) (b1 : b ≤ 65535) (w : World) :
    Calls Try.prog 22 #[.int .u8 20, .int .u16 a, .int .u16 b] w (RetB (D 20 a b) w) := by
  have hfn := eqFn
  have hf : fnNum 20 = 63 := by kernel_rfl
  have HF := Lib.hid hf
  clear hf
  go_enter Try.func22, Try.ntmps22
  go_wp2_with fail
  refine (find_any 20 (by omega) (by omega) _).mono ?_
  rintro e w' ⟨rfl, hb⟩
  rw [HF.out]
  go_wp2_with fail
  refine (c_cle a b a0 a1 b0 b1 _).mono ?_
  rintro e w' ⟨rfl, rfl⟩
  go_wp2_with fail
  go_ret2
  exact ⟨rfl, hb⟩

theorem Does_21 (a b : Int) (a0 : 0 ≤ a) (a1 : a ≤ 65535) (b0 : 0 ≤ b) (b1 : b ≤ 65535) (w : World) :
    Calls Try.prog 22 #[.int .u8 21, .int .u16 a, .int .u16 b] w (RetB (D 21 a b) w) := by
  have hfn := eqFn
  have hf : fnNum 21 = 64 := by kernel_rfl
  have HF := Lib.hid hf
  clear hf
  go_enter Try.func22, Try.ntmps22
  go_wp2_with fail
  refine (find_any 21 (by omega) (by omega) _).mono ?_
  rintro e w' ⟨rfl, hb⟩
  rw [HF.out]
  go_wp2_with fail
  refine (c_cgt a b a0 a1 b0 b1 _).mono ?_
  rintro e w' ⟨rfl, rfl⟩
  go_wp2_with fail
  go_ret2
  exact ⟨rfl, hb⟩

theorem Does_22 (a b : Int) (a0 : 0 ≤ a) (a1 : a ≤ 65535) (b0 : 0 ≤ b) (b1 : b ≤ 65535) (w : World) :
    Calls Try.prog 22 #[.int .u8 22, .int .u16 a, .int .u16 b] w (RetB (D 22 a b) w) := by
  have hfn := eqFn
  have hf : fnNum 22 = 65 := by kernel_rfl
  have HF := Lib.hid hf
  clear hf
  go_enter Try.func22, Try.ntmps22
  go_wp2_with fail
  refine (find_any 22 (by omega) (by omega) _).mono ?_
  rintro e w' ⟨rfl, hb⟩
  rw [HF.out]
  go_wp2_with fail
  refine (c_cge a b a0 a1 b0 b1 _).mono ?_
  rintro e w' ⟨rfl, rfl⟩
  go_wp2_with fail
  go_ret2
  exact ⟨rfl, hb⟩

theorem Does_23 (a b : Int) (a0 : 0 ≤ a) (a1 : a ≤ 65535) (b0 : 0 ≤ b) (b1 : b ≤ 65535) (w : World) :
    Calls Try.prog 22 #[.int .u8 23, .int .u16 a, .int .u16 b] w (RetB (D 23 a b) w) := by
  have hfn := eqFn
  have hf : fnNum 23 = 66 := by kernel_rfl
  have HF := Lib.hid hf
  clear hf
  go_enter Try.func22, Try.ntmps22
  go_wp2_with fail
  refine (find_any 23 (by omega) (by omega) _).mono ?_
  rintro e w' ⟨rfl, hb⟩
  rw [HF.out]
  go_wp2_with fail
  refine (c_not a b a0 a1 b0 b1 _).mono ?_
  rintro e w' ⟨rfl, rfl⟩
  go_wp2_with fail
  go_ret2
  exact ⟨rfl, hb⟩

theorem Does_24 (a b : Int) (a0 : 0 ≤ a) (a1 : a ≤ 65535) (b0 : 0 ≤ b) (b1 : b ≤ 65535) (w : World) :
    Calls Try.prog 22 #[.int .u8 24, .int .u16 a, .int .u16 b] w (RetB (D 24 a b) w) := by
  have hfn := eqFn
  have hf : fnNum 24 = 67 := by kernel_rfl
  have HF := Lib.hid hf
  clear hf
  go_enter Try.func22, Try.ntmps22
  go_wp2_with fail
  refine (find_any 24 (by omega) (by omega) _).mono ?_
  rintro e w' ⟨rfl, hb⟩
  rw [HF.out]
  go_wp2_with fail
  refine (c_or a b a0 a1 b0 b1 _).mono ?_
  rintro e w' ⟨rfl, rfl⟩
  go_wp2_with fail
  go_ret2
  exact ⟨rfl, hb⟩

theorem Does_25 (a b : Int) (a0 : 0 ≤ a) (a1 : a ≤ 65535) (b0 : 0 ≤ b) (b1 : b ≤ 65535) (w : World) :
    Calls Try.prog 22 #[.int .u8 25, .int .u16 a, .int .u16 b] w (RetB (D 25 a b) w) := by
  have hfn := eqFn
  have hf : fnNum 25 = 68 := by kernel_rfl
  have HF := Lib.hid hf
  clear hf
  go_enter Try.func22, Try.ntmps22
  go_wp2_with fail
  refine (find_any 25 (by omega) (by omega) _).mono ?_
  rintro e w' ⟨rfl, hb⟩
  rw [HF.out]
  go_wp2_with fail
  refine (c_andn a b a0 a1 b0 b1 _).mono ?_
  rintro e w' ⟨rfl, rfl⟩
  go_wp2_with fail
  go_ret2
  exact ⟨rfl, hb⟩

theorem Does_26 (a b : Int) (a0 : 0 ≤ a) (a1 : a ≤ 65535) (b0 : 0 ≤ b) (b1 : b ≤ 65535) (w : World) :
    Calls Try.prog 22 #[.int .u8 26, .int .u16 a, .int .u16 b] w (RetB (D 26 a b) w) := by
  have hfn := eqFn
  have hf : fnNum 26 = 69 := by kernel_rfl
  have HF := Lib.hid hf
  clear hf
  go_enter Try.func22, Try.ntmps22
  go_wp2_with fail
  refine (find_any 26 (by omega) (by omega) _).mono ?_
  rintro e w' ⟨rfl, hb⟩
  rw [HF.out]
  go_wp2_with fail
  refine (c_and a b a0 a1 b0 b1 _).mono ?_
  rintro e w' ⟨rfl, rfl⟩
  go_wp2_with fail
  go_ret2
  exact ⟨rfl, hb⟩

theorem Does_27 (a b : Int) (a0 : 0 ≤ a) (a1 : a ≤ 65535) (b0 : 0 ≤ b) (b1 : b ≤ 65535) (w : World) :
    Calls Try.prog 22 #[.int .u8 27, .int .u16 a, .int .u16 b] w (RetB (D 27 a b) w) := by
  have hfn := eqFn
  have hf : fnNum 27 = 70 := by kernel_rfl
  have HF := Lib.hid hf
  clear hf
  go_enter Try.func22, Try.ntmps22
  go_wp2_with fail
  refine (find_any 27 (by omega) (by omega) _).mono ?_
  rintro e w' ⟨rfl, hb⟩
  rw [HF.out]
  go_wp2_with fail
  refine (c_xor a b a0 a1 b0 b1 _).mono ?_
  rintro e w' ⟨rfl, rfl⟩
  go_wp2_with fail
  go_ret2
  exact ⟨rfl, hb⟩

theorem Does_28 (a b : Int) (a0 : 0 ≤ a) (a1 : a ≤ 65535) (b0 : 0 ≤ b) (b1 : b ≤ 65535) (w : World) :
    Calls Try.prog 22 #[.int .u8 28, .int .u16 a, .int .u16 b] w (RetB (D 28 a b) w) := by
  have hfn := eqFn
  have hf : fnNum 28 = 71 := by kernel_rfl
  have HF := Lib.hid hf
  clear hf
  go_enter Try.func22, Try.ntmps22
  go_wp2_with fail
  refine (find_any 28 (by omega) (by omega) _).mono ?_
  rintro e w' ⟨rfl, hb⟩
  rw [HF.out]
  go_wp2_with fail
  refine (c_in a b a0 a1 b0 b1 _).mono ?_
  rintro e w' ⟨rfl, rfl⟩
  go_wp2_with fail
  go_ret2
  exact ⟨rfl, hb⟩

theorem Does_29 (a b : Int) (a0 : 0 ≤ a) (a1 : a ≤ 65535) (b0 : 0 ≤ b) (b1 : b ≤ 65535) (w : World) :
    Calls Try.prog 22 #[.int .u8 29, .int .u16 a, .int .u16 b] w (RetB (D 29 a b) w) := by
  have hfn := eqFn
  have hf : fnNum 29 = 72 := by kernel_rfl
  have HF := Lib.hid hf
  clear hf
  go_enter Try.func22, Try.ntmps22
  go_wp2_with fail
  refine (find_any 29 (by omega) (by omega) _).mono ?_
  rintro e w' ⟨rfl, hb⟩
  rw [HF.out]
  go_wp2_with fail
  refine (c_sub a b a0 a1 b0 b1 _).mono ?_
  rintro e w' ⟨rfl, rfl⟩
  go_wp2_with fail
  go_ret2
  exact ⟨rfl, hb⟩

theorem Does_30 (a b : Int) (a0 : 0 ≤ a) (a1 : a ≤ 65535) (b0 : 0 ≤ b) (b1 : b ≤ 65535) (w : World) :
    Calls Try.prog 22 #[.int .u8 30, .int .u16 a, .int .u16 b] w (RetB (D 30 a b) w) := by
  have hfn := eqFn
  have hf : fnNum 30 = 73 := by kernel_rfl
  have HF := Lib.hid hf
  clear hf
  go_enter Try.func22, Try.ntmps22
  go_wp2_with fail
  refine (find_any 30 (by omega) (by omega) _).mono ?_
  rintro e w' ⟨rfl, hb⟩
  rw [HF.out]
  go_wp2_with fail
  refine (c_one a b a0 a1 b0 b1 _).mono ?_
  rintro e w' ⟨rfl, rfl⟩
  go_wp2_with fail
  go_ret2
  exact ⟨rfl, hb⟩

theorem Does_31 (a b : Int) (a0 : 0 ≤ a) (a1 : a ≤ 65535) (b0 : 0 ≤ b) (b1 : b ≤ 65535) (w : World) :
    Calls Try.prog 22 #[.int .u8 31, .int .u16 a, .int .u16 b] w (RetB (D 31 a b) w) := by
  have hfn := eqFn
  have hf : fnNum 31 = 75 := by kernel_rfl
  have HF := Lib.hid hf
  clear hf
  go_enter Try.func22, Try.ntmps22
  go_wp2_with fail
  refine (find_any 31 (by omega) (by omega) _).mono ?_
  rintro e w' ⟨rfl, hb⟩
  rw [HF.out]
  go_wp2_with fail
  refine (c_row a b a0 a1 b0 b1 _).mono ?_
  rintro e w' ⟨rfl, rfl⟩
  go_wp2_with fail
  go_ret2
  exact ⟨rfl, hb⟩

theorem Does_any (op a b : Int) (h0 : 0 ≤ op) (h1 : op ≤ 255) (a0 : 0 ≤ a) (a1 : a ≤ 65535) (b0 : 0 ≤ b) (b1 : b ≤ 65535) (w : World) :
    Calls Try.prog 22 #[.int .u8 op, .int .u16 a, .int .u16 b] w (RetB (D op a b) w) := by
  have hnil := eqNil
  have hfn := eqFn
  by_cases h : 1 ≤ op ∧ op ≤ 31
  · obtain ⟨h2, h3⟩ := h
    have h : op = 1 ∨ op = 2 ∨ op = 3 ∨ op = 4 ∨ op = 5 ∨ op = 6 ∨ op = 7 ∨ op = 8 ∨ op = 9 ∨ op = 10 ∨ op = 11 ∨ op = 12 ∨ op = 13 ∨ op = 14 ∨ op = 15 ∨ op = 16 ∨ op = 17 ∨ op = 18 ∨ op = 19 ∨ op = 20 ∨ op = 21 ∨ op = 22 ∨ op = 23 ∨ op = 24 ∨ op = 25 ∨ op = 26 ∨ op = 27 ∨ op = 28 ∨ op = 29 ∨ op = 30 ∨ op = 31 := by omega
    clear h0 h1 h2 h3 hnil hfn
    rcases h with rfl | rfl | rfl | rfl | rfl | rfl | rfl | rfl | rfl | rfl | rfl | rfl | rfl | rfl | rfl | rfl | rfl | rfl | rfl | rfl | rfl | rfl | rfl | rfl | rfl | rfl | rfl | rfl | rfl | rfl | rfl
    · exact Does_1 a b a0 a1 b0 b1 w
    · exact Does_2 a b a0 a1 b0 b1 w
    · exact Does_3 a b a0 a1 b0 b1 w
    · exact Does_4 a b a0 a1 b0 b1 w
    · exact Does_5 a b a0 a1 b0 b1 w
    · exact Does_6 a b a0 a1 b0 b1 w
    · exact Does_7 a b a0 a1 b0 b1 w
    · exact Does_8 a b a0 a1 b0 b1 w
    · exact Does_9 a b a0 a1 b0 b1 w
    · exact Does_10 a b a0 a1 b0 b1 w
    · exact Does_11 a b a0 a1 b0 b1 w
    · exact Does_12 a b a0 a1 b0 b1 w
    · exact Does_13 a b a0 a1 b0 b1 w
    · exact Does_14 a b a0 a1 b0 b1 w
    · exact Does_15 a b a0 a1 b0 b1 w
    · exact Does_16 a b a0 a1 b0 b1 w
    · exact Does_17 a b a0 a1 b0 b1 w
    · exact Does_18 a b a0 a1 b0 b1 w
    · exact Does_19 a b a0 a1 b0 b1 w
    · exact Does_20 a b a0 a1 b0 b1 w
    · exact Does_21 a b a0 a1 b0 b1 w
    · exact Does_22 a b a0 a1 b0 b1 w
    · exact Does_23 a b a0 a1 b0 b1 w
    · exact Does_24 a b a0 a1 b0 b1 w
    · exact Does_25 a b a0 a1 b0 b1 w
    · exact Does_26 a b a0 a1 b0 b1 w
    · exact Does_27 a b a0 a1 b0 b1 w
    · exact Does_28 a b a0 a1 b0 b1 w
    · exact Does_29 a b a0 a1 b0 b1 w
    · exact Does_30 a b a0 a1 b0 b1 w
    · exact Does_31 a b a0 a1 b0 b1 w
  · have HD := Lib.hid (D_none op a b (by omega))
    have HB : op = 0 ∨ 32 ≤ op := by omega
    go_enter Try.func22, Try.ntmps22
    go_wp2_with fail
    refine (find_nil op h0 h1 HB _).mono ?_
    rintro e w' ⟨rfl, hb⟩
    go_wp2_with fail
    go_ret2
    exact ⟨ret_of (p := (0, 12)) HD.out.symm, hb⟩
end Go.Proofs.Ytcecjjjehhjldaa
