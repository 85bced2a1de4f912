/- The document's answers of layer 4, walked: value. -/
import Derived.Test.YtggembknccbpnaaGreatLyC
namespace Go.Proofs.YtggembknccbpnaaGreat
open Go.RowKit
set_option maxHeartbeats 1000000
set_option maxRecDepth 100000
set_option linter.unusedVariables false

theorem value_any (s : ByteArray) (hs : s.size ≤ 1048576) (hx : ∀ b ∈ s.data.toList, isHx b = true) (base most : Int) (b0 : 2 ≤ base) (b1 : base ≤ 16) (m0 : 0 ≤ most) (m1 : most ≤ 65535) (w : World) :
    Calls Tryz.prog 74 #[.string s, .int .i64 base, .int .i64 most] w fun e w' => ∃ n, e = .returned (.tuple #[.int .i64 n, .bool (valS base most s.data.toList).isSome]) ∧ (∀ v, valS base most s.data.toList = some v → n = v) ∧ w' = w := by
  have HX := Lib.hid hx
  clear hx
  have hem := empty_test s
  go_enter Tryz.func74, Tryz.ntmps74
  go_wp2_with fail
  go_loop [8, 9] (fun n i => ∃ (k : Nat) (n1 : Int), k ≤ s.size ∧ i = .int .i64 k ∧ n = .int .i64 n1 ∧ 0 ≤ n1 ∧ n1 ≤ 1048576 ∧ valL base most 0 s.data.toList = valL base most n1 (s.data.toList.drop k))
    (fun n i => s.size - (intOf i).toNat)
  case atStart => exact ⟨0, 0, by omega, rfl, rfl, by omega, by omega, rfl⟩
  case round =>
    obtain ⟨k, n1, hk, rfl, rfl, h0, h1, hv⟩ := hrel
    have HV := Lib.hid hv
    clear hv
    by_cases hlt : k < s.size
    · have hdr := byte_drop s k hlt
      have hbx := HX.out s[k] (List.mem_of_getElem? (byte_get s k hlt))
      obtain ⟨b, hb⟩ : ∃ b, s[k] = b := ⟨_, rfl⟩
      rw [hb] at hdr hbx
      have hne : s.data.toList ≠ [] := fun e => by
        have := bytes_of s
        rw [e] at this; simp at this; omega
      have hS : Hid (valS base most s.data.toList = valL base most n1 (b :: s.data.toList.drop (k + 1))) := Lib.hid (by
        unfold valS; rw [if_neg hne, HV.out, hdr])
      unfold isHx isDg at hbx
      simp at hbx
      have hl1 : 48 ≤ (b.toNat : Int) := by omega
      have hl2 : (b.toNat : Int) ≤ 70 := by omega
      clear hne
      by_cases hA : 65 ≤ (b.toNat : Int)
      · have hdv : Hid (digV b = (b.toNat : Int) - 55) := Lib.hid (by unfold digV; rw [if_pos (by omega)])
        by_cases hbad : base ≤ (b.toNat : Int) - 65 + 10
        · have HT : Hid (valS base most s.data.toList = none) := Lib.hid (by rw [hS.out, valL, if_pos (.inl (by rw [hdv.out]; omega))])
          clear hbx
          go_wp2_with fail
          go_ret2
          exact ⟨0, by rw [HT.out]; rfl, (fun v hv => by rw [HT.out] at hv; cases hv), rfl⟩
        · by_cases hm : most < n1
          · have HT : Hid (valS base most s.data.toList = none) := Lib.hid (by rw [hS.out, valL, if_pos (.inr hm)])
            clear hbx
            go_wp2_with fail
            go_ret2
            exact ⟨0, by rw [HT.out]; rfl, (fun v hv => by rw [HT.out] at hv; cases hv), rfl⟩
          · have hp : 0 ≤ n1 * base ∧ n1 * base ≤ 1048560 := by
              have q1 : n1 * base ≤ 65535 * 16 := Int.mul_le_mul (by omega) b1 (by omega) (by omega)
              exact ⟨Int.mul_nonneg h0 (by omega), by omega⟩
            have HK : Hid (valL base most 0 s.data.toList = valL base most (n1 * base + ((b.toNat : Int) - 65 + 10)) (s.data.toList.drop (k + 1))) := Lib.hid (by
              rw [HV.out, hdr, valL, if_neg (by rw [hdv.out]; omega), hdv.out, show (b.toNat : Int) - 65 + 10 = (b.toNat : Int) - 55 by omega])
            have hw : wrap64 (wrap64 (n1 * base) + ((b.toNat : Int) - 65 + 10)) = n1 * base + ((b.toNat : Int) - 65 + 10) := by rw [w64 (n1 * base) (by omega) (by omega), w64 _ (by omega) (by omega)]
            clear hdr
            go_wp2_with fail
            go_round
            case rel => exact ⟨k + 1, n1 * base + ((b.toNat : Int) - 65 + 10), by omega, by simp, by simp, by omega, by omega, HK.out⟩
            case measure => simp [intOf]; omega
      · have hdv : Hid (digV b = (b.toNat : Int) - 48) := Lib.hid (by unfold digV; rw [if_neg (by omega)])
        by_cases hbad : base ≤ (b.toNat : Int) - 48
        · have HT : Hid (valS base most s.data.toList = none) := Lib.hid (by rw [hS.out, valL, if_pos (.inl (by rw [hdv.out]; omega))])
          clear hbx
          go_wp2_with fail
          go_ret2
          exact ⟨0, by rw [HT.out]; rfl, (fun v hv => by rw [HT.out] at hv; cases hv), rfl⟩
        · by_cases hm : most < n1
          · have HT : Hid (valS base most s.data.toList = none) := Lib.hid (by rw [hS.out, valL, if_pos (.inr hm)])
            clear hbx
            go_wp2_with fail
            go_ret2
            exact ⟨0, by rw [HT.out]; rfl, (fun v hv => by rw [HT.out] at hv; cases hv), rfl⟩
          · have hp : 0 ≤ n1 * base ∧ n1 * base ≤ 1048560 := by
              have q1 : n1 * base ≤ 65535 * 16 := Int.mul_le_mul (by omega) b1 (by omega) (by omega)
              exact ⟨Int.mul_nonneg h0 (by omega), by omega⟩
            have HK : Hid (valL base most 0 s.data.toList = valL base most (n1 * base + ((b.toNat : Int) - 48)) (s.data.toList.drop (k + 1))) := Lib.hid (by
              rw [HV.out, hdr, valL, if_neg (by rw [hdv.out]; omega), hdv.out])
            have hw : wrap64 (wrap64 (n1 * base) + ((b.toNat : Int) - 48)) = n1 * base + ((b.toNat : Int) - 48) := by rw [w64 (n1 * base) (by omega) (by omega), w64 _ (by omega) (by omega)]
            clear hdr
            go_wp2_with fail
            go_round
            case rel => exact ⟨k + 1, n1 * base + ((b.toNat : Int) - 48), by omega, by simp, by simp, by omega, by omega, HK.out⟩
            case measure => simp [intOf]; omega
    · have hke : k = s.size := by omega
      subst hke
      have hd0 : s.data.toList.drop s.size = [] := List.drop_of_length_le (by rw [bytes_of]; exact Nat.le_refl _)
      by_cases hz : s.size = 0
      · have HT : Hid (valS base most s.data.toList = none) := Lib.hid (by
          unfold valS; rw [if_pos (List.length_eq_zero_iff.1 (by rw [bytes_of]; exact hz))])
        rw [decide_eq_true hz] at hem
        clear hd0
        go_wp2_with fail
        go_ret2
        exact ⟨n1, by rw [HT.out]; rfl, (fun v hv => by rw [HT.out] at hv; cases hv), rfl⟩
      · have hS : Hid (valS base most s.data.toList = if n1 ≤ most then some n1 else none) := Lib.hid (by
          unfold valS; rw [if_neg (fun e => hz (by rw [← bytes_of, e]; rfl)), HV.out, hd0]; rfl)
        rw [decide_eq_false hz] at hem
        clear hd0
        by_cases hm : n1 ≤ most
        · go_wp2_with fail
          go_ret2
          exact ⟨n1, by rw [hS.out, if_pos hm]; rfl, (fun v hv => by rw [hS.out, if_pos hm] at hv; injection hv), rfl⟩
        · have hm2 : decide (n1 ≤ most) = false := decide_eq_false hm
          have HM := Lib.hid hm
          go_wp2_with fail
          go_ret2
          exact ⟨n1, by rw [hS.out, if_neg (Int.not_le.2 HM.out)]; rfl, (fun v hv => by rw [hS.out, if_neg (Int.not_le.2 HM.out)] at hv; cases hv), rfl⟩
end Go.Proofs.YtggembknccbpnaaGreat
