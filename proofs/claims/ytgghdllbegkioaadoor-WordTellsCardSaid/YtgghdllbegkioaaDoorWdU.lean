/- The document's own text of a word, walked. -/
import Derived.Test.YtgghdllbegkioaaDoorWdS
import Derived.Test.YtgghdllbegkioaaDoorWdR
import Derived.LoopTactic
import Derived.Laws.BytesArg
namespace Go.Proofs.YtgghdllbegkioaaDoor
open Go.RowKit
set_option maxHeartbeats 4000000
set_option maxRecDepth 100000
set_option linter.unusedVariables false

theorem conv1 (W : World) (c : Int) : (convert 48 9 (.slice (some ⟨W.heap.size, 0, none⟩) 1 1)).run Tryd.prog (W.alloc (.cells #[.int .u8 c] 5)) = .ok (.string ⟨#[UInt8.ofNat c.toNat]⟩) (W.alloc (.cells #[.int .u8 c] 5)) := by
  have h := run_convert_bytes_arg (P := Tryd.prog) (W.alloc (.cells #[.int .u8 c] 5)) 48 5 Tryd.underlying48 Tryd.underlying5 W.heap.size 0 1 1 [c] rfl (fun i hi => by
    obtain rfl : i = 0 := by omega
    simp [go_sem]) 9 Tryd.underlying9
  exact h
theorem refInt_is (a x : Int) (h0 : 0 ≤ a) (h1 : a ≤ 65535) (h : sg a = x) (w : World) :
    Calls Tryd.prog 17 #[.int .u16 a] w fun e w' => e = .returned (.int .i64 x) ∧ w = w' := by
  have h2 := refInt_any a h0 h1 w
  rw [h] at h2
  exact h2
theorem bcat (c : UInt8) (l : List UInt8) : (⟨#[c]⟩ : ByteArray) ++ ⟨l.toArray⟩ = ⟨(c :: l).toArray⟩ := by
  apply ByteArray.ext
  simp
def str1 (c : UInt8) (l : List UInt8) : ByteArray := HAppend.hAppend (α := ByteArray) (β := ByteArray) (γ := ByteArray) ⟨#[c]⟩ ⟨l.toArray⟩
def str2 (c d : UInt8) (l : List UInt8) : ByteArray := HAppend.hAppend (α := ByteArray) (β := ByteArray) (γ := ByteArray) ⟨#[c]⟩ (str1 d l)
theorem str1_eq (c : UInt8) (l : List UInt8) : str1 c l = ⟨(c :: l).toArray⟩ := bcat c l
theorem str2_eq (c d : UInt8) (l : List UInt8) : str2 c d l = ⟨(c :: d :: l).toArray⟩ := by unfold str2; rw [str1_eq]; exact bcat c (d :: l)
theorem dig_add (k : Nat) : 48 + UInt8.ofNat k = UInt8.ofNat (48 + k) := by rw [UInt8.ofNat_add]; rfl
theorem dec_step (m : Nat) (h : 9 < m) : Lib.decDigits m = Lib.decDigits (m / 10) ++ [UInt8.ofNat (48 + m % 10)] := by
  rw [Lib.decDigits, dif_neg (by omega)]
theorem dec_last (m : Nat) (h : m ≤ 9) : Lib.decDigits m = [UInt8.ofNat (48 + m)] := by
  rw [Lib.decDigits, dif_pos (by omega)]
theorem ret_str {s t : ByteArray} (h : s = t) : Ending.returned (.string s) = Ending.returned (.string t) := by rw [h]
theorem textS_of (s : Bool) (a : Int) (l : List UInt8) (h : textN s a = l) : (⟨l.toArray⟩ : ByteArray) = textS s a := by rw [← h]; rfl

theorem rtext_u (a : Int) (u : Nat) (a0 : 0 ≤ a) (a1 : a ≤ 65535) (h : a = (u : Int)) (w : World) :
    Calls Tryd.prog 21 #[.bool false, .int .u16 a] w fun e w' => e = .returned (.string (textS false a)) ∧ Below w.heap.size w w' := by
  have hu : u ≤ 65535 := by omega
  have ht : textN false a = Lib.decDigits u := by
    unfold textN
    rw [if_neg (by decide), h, itoa_pos' _ (by omega)]; simp
  have HTX := Lib.hid ht
  clear ht
  have HH := Lib.hid h
  have x1 : max (u : Int) (-(u : Int)) = (u : Int) := by omega
  have x1' : max (-(u : Int)) (u : Int) = (u : Int) := by omega
  have x2 : decide ((u : Int) < 0) = false := by rw [decide_eq_false_iff_not]; omega
  subst h
  have conv := conv1
  go_enter Tryd.func21, Tryd.ntmps21
  go_wp2_with fail
  go_loopw [5, 6] (fun n t wr => ∃ (m : Nat) (l : List UInt8), m ≤ 65535 ∧ Lib.decDigits u = Lib.decDigits m ++ l ∧ n = .int .i64 m ∧ t = .string ⟨l.toArray⟩ ∧ Below w.heap.size w wr) (fun n _ _ => (intOf n).toNat)
  case atStart => exact ⟨u, [], by omega, by simp, rfl, rfl, Below.refl _ _⟩
  case round =>
    obtain ⟨m, l, hm, hl, rfl, rfl, hb⟩ := hrel
    have hll : l.length ≤ 5 := by
      have h1 := congrArg List.length hl
      have h2 := dec_len 4 u (by omega)
      rw [List.length_append] at h1
      omega
    have HL := Lib.hid hl
    clear hl
    have hsz := hb.size
    by_cases h9 : 9 < m
    · go_wp2_with fail
      go_roundw
      case rel =>
        refine ⟨m / 10, UInt8.ofNat (48 + m % 10) :: l, by omega, ?_, by go_num, ?_, hb.alloc hsz _⟩
        · rw [HL.out, dec_step m h9, List.append_assoc]; rfl
        · rw [dig_add, bcat]
      case measure => simp [intOf]; omega
    · go_wp2_with fail
      go_ret
      refine ⟨ret_str (s := str1 (48 + UInt8.ofNat m) l) ?_, hb.alloc hsz _⟩
      rw [dig_add, str1_eq]
      apply textS_of
      rw [HTX.out, HL.out, dec_last m (by omega)]
      rfl

theorem rtext_p (a : Int) (u : Nat) (a0 : 0 ≤ a) (a1 : a ≤ 65535) (h : sg a = (u : Int)) (w : World) :
    Calls Tryd.prog 21 #[.bool true, .int .u16 a] w fun e w' => e = .returned (.string (textS true a)) ∧ Below w.heap.size w w' := by
  have hu : u ≤ 65535 := by have := sg_bd a a0 a1; omega
  have ht : textN true a = Lib.decDigits u := by
    unfold textN
    rw [if_pos rfl, h, itoa_pos' _ (by omega)]; simp
  have HTX := Lib.hid ht
  clear ht
  have HH := Lib.hid h
  have x1 : max (u : Int) (-(u : Int)) = (u : Int) := by omega
  have x1' : max (-(u : Int)) (u : Int) = (u : Int) := by omega
  have x2 : decide ((u : Int) < 0) = false := by rw [decide_eq_false_iff_not]; omega
  clear h
  have conv := conv1
  go_enter Tryd.func21, Tryd.ntmps21
  go_wp2_with fail
  refine (refInt_is a (u : Int) a0 a1 HH.out _).mono ?_
  rintro e w1 ⟨rfl, rfl⟩
  go_wp2_with fail
  go_loopw [5, 6] (fun n t wr => ∃ (m : Nat) (l : List UInt8), m ≤ 65535 ∧ Lib.decDigits u = Lib.decDigits m ++ l ∧ n = .int .i64 m ∧ t = .string ⟨l.toArray⟩ ∧ Below w.heap.size w wr) (fun n _ _ => (intOf n).toNat)
  case atStart => exact ⟨u, [], by omega, by simp, rfl, rfl, Below.refl _ _⟩
  case round =>
    obtain ⟨m, l, hm, hl, rfl, rfl, hb⟩ := hrel
    have hll : l.length ≤ 5 := by
      have h1 := congrArg List.length hl
      have h2 := dec_len 4 u (by omega)
      rw [List.length_append] at h1
      omega
    have HL := Lib.hid hl
    clear hl
    have hsz := hb.size
    by_cases h9 : 9 < m
    · go_wp2_with fail
      go_roundw
      case rel =>
        refine ⟨m / 10, UInt8.ofNat (48 + m % 10) :: l, by omega, ?_, by go_num, ?_, hb.alloc hsz _⟩
        · rw [HL.out, dec_step m h9, List.append_assoc]; rfl
        · rw [dig_add, bcat]
      case measure => simp [intOf]; omega
    · go_wp2_with fail
      go_ret
      refine ⟨ret_str (s := str1 (48 + UInt8.ofNat m) l) ?_, hb.alloc hsz _⟩
      rw [dig_add, str1_eq]
      apply textS_of
      rw [HTX.out, HL.out, dec_last m (by omega)]
      rfl

theorem rtext_n (a : Int) (u : Nat) (a0 : 0 ≤ a) (a1 : a ≤ 65535) (h : sg a = -(u : Int)) (hpos : 0 < u) (w : World) :
    Calls Tryd.prog 21 #[.bool true, .int .u16 a] w fun e w' => e = .returned (.string (textS true a)) ∧ Below w.heap.size w w' := by
  have hu : u ≤ 65535 := by have := sg_bd a a0 a1; omega
  have ht : textN true a = 45 :: Lib.decDigits u := by
    unfold textN
    rw [if_pos rfl, h, itoa_neg' _ (by omega)]; simp
  have HTX := Lib.hid ht
  clear ht
  have HH := Lib.hid h
  have x1 : max (u : Int) (-(u : Int)) = (u : Int) := by omega
  have x1' : max (-(u : Int)) (u : Int) = (u : Int) := by omega
  have x2 : decide ((u : Int) < 0) = false := by rw [decide_eq_false_iff_not]; omega
  have x3 : decide (-(u : Int) < 0) = true := by rw [decide_eq_true_iff]; omega
  have x4 : 0 < u := hpos
  clear h
  have conv := conv1
  go_enter Tryd.func21, Tryd.ntmps21
  go_wp2_with fail
  refine (refInt_is a (-(u : Int)) a0 a1 HH.out _).mono ?_
  rintro e w1 ⟨rfl, rfl⟩
  go_wp2_with fail
  go_loopw [5, 6] (fun n t wr => ∃ (m : Nat) (l : List UInt8), m ≤ 65535 ∧ Lib.decDigits u = Lib.decDigits m ++ l ∧ n = .int .i64 m ∧ t = .string ⟨l.toArray⟩ ∧ Below w.heap.size w wr) (fun n _ _ => (intOf n).toNat)
  case atStart => exact ⟨u, [], by omega, by simp, rfl, rfl, Below.refl _ _⟩
  case round =>
    obtain ⟨m, l, hm, hl, rfl, rfl, hb⟩ := hrel
    have hll : l.length ≤ 5 := by
      have h1 := congrArg List.length hl
      have h2 := dec_len 4 u (by omega)
      rw [List.length_append] at h1
      omega
    have HL := Lib.hid hl
    clear hl
    have hsz := hb.size
    by_cases h9 : 9 < m
    · go_wp2_with fail
      go_roundw
      case rel =>
        refine ⟨m / 10, UInt8.ofNat (48 + m % 10) :: l, by omega, ?_, by go_num, ?_, hb.alloc hsz _⟩
        · rw [HL.out, dec_step m h9, List.append_assoc]; rfl
        · rw [dig_add, bcat]
      case measure => simp [intOf]; omega
    · go_wp2_with fail
      go_ret
      refine ⟨ret_str (s := str2 45 (48 + UInt8.ofNat m) l) ?_, hb.alloc hsz _⟩
      rw [dig_add, str2_eq]
      apply textS_of
      rw [HTX.out, HL.out, dec_last m (by omega)]
      rfl

theorem refText_any (s : Bool) (a : Int) (a0 : 0 ≤ a) (a1 : a ≤ 65535) (w : World) :
    Calls Tryd.prog 21 #[.bool s, .int .u16 a] w fun e w' => e = .returned (.string (textS s a)) ∧ Below w.heap.size w w' := by
  cases s
  · exact rtext_u a a.toNat a0 a1 (by omega) w
  · by_cases h : sg a < 0
    · exact rtext_n a (sg a).natAbs a0 a1 (by omega) (by omega) w
    · exact rtext_p a (sg a).natAbs a0 a1 (by omega) w
end Go.Proofs.YtgghdllbegkioaaDoor
