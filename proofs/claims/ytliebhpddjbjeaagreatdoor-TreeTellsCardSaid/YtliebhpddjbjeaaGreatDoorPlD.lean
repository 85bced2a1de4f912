/- The document's answers of layer 3, walked: Digits, Number. -/
import Derived.Test.YtliebhpddjbjeaaGreatDoorPlZ
import Derived.LoopTactic
import Derived.Laws.BytesArg
import Derived.Lib.ItoaNum
namespace Go.Proofs.YtliebhpddjbjeaaGreatDoor
open Go.RowKit
set_option maxHeartbeats 4000000
set_option maxRecDepth 100000
set_option linter.unusedVariables false

theorem conv1 (W : World) (c : Int) : (convert 45 9 (.slice (some ⟨W.heap.size, 0, none⟩) 1 1)).run Tryz.prog (W.alloc (.cells #[.int .u8 c] 5)) = .ok (.string ⟨#[UInt8.ofNat c.toNat]⟩) (W.alloc (.cells #[.int .u8 c] 5)) := by
  have h := run_convert_bytes_arg (P := Tryz.prog) (W.alloc (.cells #[.int .u8 c] 5)) 45 5 Tryz.underlying45 Tryz.underlying5 W.heap.size 0 1 1 [c] rfl (fun i hi => by
    obtain rfl : i = 0 := by omega
    simp [go_sem]) 9 Tryz.underlying9
  exact h
theorem bcat (c : UInt8) (l : List UInt8) : (⟨#[c]⟩ : ByteArray) ++ ⟨l.toArray⟩ = ⟨(c :: l).toArray⟩ := by
  apply ByteArray.ext
  simp
theorem dig_add (k : Nat) : 48 + UInt8.ofNat k = UInt8.ofNat (48 + k) := by rw [UInt8.ofNat_add]; rfl
/-- The digits of a number above 0; of 0: none. -/
def dgs (m : Nat) : List UInt8 := if m = 0 then [] else Lib.decDigits m
theorem dgs_step (m : Nat) (h : 0 < m) : dgs m = dgs (m / 10) ++ [UInt8.ofNat (48 + m % 10)] := by
  unfold dgs
  rw [if_neg (by omega), Lib.decDigits]
  by_cases h9 : m < 10
  · rw [dif_pos h9, if_pos (by omega), show m % 10 = m by omega]; rfl
  · rw [dif_neg h9, if_neg (by omega)]
theorem dec_len (n u : Nat) (h : u < 10 ^ (n + 1)) : (Lib.decDigits u).length ≤ n + 1 := by
  induction n generalizing u with
  | zero => rw [Lib.decDigits, dif_pos (by simpa using h)]; simp
  | succ n ih =>
    by_cases h2 : u < 10
    · rw [Lib.decDigits, dif_pos h2]; simp
    · rw [Lib.decDigits, dif_neg h2]
      have := ih (u / 10) (by rw [Nat.pow_succ] at h; omega)
      simp only [List.length_append, List.length_singleton]
      omega
theorem dgs_len (m : Nat) (h : m ≤ 1073741824) : (dgs m).length ≤ 10 := by
  unfold dgs
  split
  · simp
  · exact dec_len 9 m (by omega)
theorem ret_str {s t : ByteArray} (h : s = t) : Ending.returned (.string s) = Ending.returned (.string t) := by rw [h]

theorem rDigits_any (n : Nat) (hn : n ≤ 1073741824) (w : World) :
    Calls Tryz.prog 78 #[.int .i64 n] w fun e w' => e = .returned (.string ⟨(dgs n).toArray⟩) ∧ Below w.heap.size w w' := by
  have conv := conv1
  go_enter Tryz.func78, Tryz.ntmps78
  go_wp2_with fail
  go_loopw [0, 3] (fun n' t wr => ∃ (m : Nat) (l : List UInt8), m ≤ 1073741824 ∧ dgs n = dgs m ++ l ∧ n' = .int .i64 m ∧ t = .string ⟨l.toArray⟩ ∧ Below w.heap.size w wr) (fun n' _ _ => (intOf n').toNat)
  case atStart => exact ⟨n, [], hn, by simp, rfl, rfl, Below.refl _ _⟩
  case round =>
    obtain ⟨m, l, hm, hl, rfl, rfl, hb⟩ := hrel
    have hll : l.length ≤ 10 := by
      have h1 := congrArg List.length hl
      have h2 := dgs_len n hn
      rw [List.length_append] at h1
      omega
    have HL := Lib.hid hl
    clear hl
    have hsz := hb.size
    by_cases h0 : 0 < m
    · go_wp2_with fail
      go_roundw
      case rel =>
        refine ⟨m / 10, UInt8.ofNat (48 + m % 10) :: l, by omega, ?_, by go_num, ?_, hb.alloc hsz _⟩
        · rw [HL.out, dgs_step m h0, List.append_assoc]; rfl
        · rw [dig_add, bcat]
      case measure => simp [intOf]; omega
    · obtain rfl : m = 0 := by omega
      have HT : Hid (l = dgs n) := Lib.hid (by rw [HL.out]; rfl)
      go_wp2_with fail
      go_ret
      exact ⟨ret_str (by rw [HT.out]), hb⟩
end Go.Proofs.YtliebhpddjbjeaaGreatDoor
