/- The document's answers of layer 4, walked: comment. -/
import Derived.Test.YtggembknccbpnaaGreatLyC
namespace Go.Proofs.YtggembknccbpnaaGreat
open Go.RowKit
set_option maxHeartbeats 1000000
set_option maxRecDepth 100000
set_option linter.unusedVariables false

theorem comment_any (s : ByteArray) (hs : s.size ≤ 1048576) (h2 : s.data.toList.take 2 = [40, 42]) (w : World) :
    Calls Tryz.prog 24 #[.string s] w fun e w' => e = .returned (.int .i64 (((cmt 0 s.data.toList).getD 0 : Nat) : Int)) ∧ w' = w := by
  go_enter Tryz.func24, Tryz.ntmps24
  go_wp2_with fail
  go_loop [3, 4] (fun d i => ∃ (k dp : Nat), k ≤ s.size ∧ i = .int .i64 k ∧ d = .int .i64 dp ∧ dp ≤ k ∧ ((k = 0 ∧ dp = 0) ∨ 1 ≤ dp) ∧ cmt 0 s.data.toList = (cmt dp (s.data.toList.drop k)).map (· + k))
    (fun d i => s.size - (intOf i).toNat)
  case atStart => exact ⟨0, 0, by omega, rfl, rfl, by omega, .inl ⟨rfl, rfl⟩, by simp⟩
  case round =>
    obtain ⟨k, dp, hk, rfl, rfl, hd1, hd2, hc⟩ := hrel
    have HC := Lib.hid hc
    clear hc
    have hw1 : IntKind.i64.wrap ((k : Int) + 1) = (k : Int) + 1 := wrap_i64 _ (by omega) (by omega)
    have hw2 : IntKind.i64.wrap ((k : Int) + 2) = (k : Int) + 2 := wrap_i64 _ (by omega) (by omega)
    by_cases hlt : k + 1 < s.size
    · have hlt' : (k : Int) + 1 < (s.size : Int) := by omega
      have hx1 : (0 : Int) ≤ (k : Int) := by omega
      have hx2 : (k : Int) ≤ (k : Int) + 2 := by omega
      have hx3 : (k : Int) + 2 ≤ (s.size : Int) := by omega
      have hx4 : ((k : Int) + 2).toNat = k + 2 := by omega
      obtain ⟨a, ha⟩ : ∃ a, s[k] = a := ⟨_, rfl⟩
      obtain ⟨b, hb⟩ : ∃ b, s[k + 1] = b := ⟨_, rfl⟩
      have hex : (s.extract k (k + 2)).toList = [a, b] := by rw [← ha, ← hb]; exact extract_two s k hlt
      have hdr : s.data.toList.drop k = a :: b :: s.data.toList.drop (k + 2) := by rw [byte_drop s k (by omega), byte_drop s (k + 1) hlt, ha, hb]
      have hdr1 : s.data.toList.drop (k + 1) = b :: s.data.toList.drop (k + 2) := by rw [byte_drop s (k + 1) hlt, hb]
      by_cases c1 : a = 40 ∧ b = 42
      · have t1 : ((s.extract k (k + 2)).toList == [40, 42]) = true := by rw [hex, c1.1, c1.2]; rfl
        have HK : Hid (cmt 0 s.data.toList = (cmt (dp + 1) (s.data.toList.drop (k + 2))).map (· + (k + 2))) := Lib.hid (by
          rw [HC.out, hdr, cmt, if_pos c1, Option.map_map]
          congr 1; funext x; simp; omega)
        clear hex c1 hdr hdr1
        go_wp2_with fail
        go_round
        case rel => exact ⟨k + 2, dp + 1, by omega, by simp, by simp, by omega, .inr (by omega), HK.out⟩
        case measure => simp [intOf]; omega
      · have t1 : ((s.extract k (k + 2)).toList == [40, 42]) = false := by
          rw [hex, beq_eq_false_iff_ne]; intro e; simp at e; exact c1 e
        by_cases c2 : a = 42 ∧ b = 41
        · have t2 : ((s.extract k (k + 2)).toList == [42, 41]) = true := by rw [hex, c2.1, c2.2]; rfl
          have hk0 : 1 ≤ dp := by
            rcases hd2 with ⟨q1, q2⟩ | q
            · exfalso
              subst q1
              rw [List.drop_zero] at hdr
              rw [hdr] at h2
              simp at h2
              exact c1 h2
            · exact q
          by_cases c3 : dp = 1
          · have t3 : (((dp : Nat) : Int) - 1 == 0) = true := by rw [beq_iff_eq]; omega
            have HT : Hid (((cmt 0 s.data.toList).getD 0 : Nat) = k + 2) := Lib.hid (by
              rw [HC.out, hdr, cmt, if_neg c1, if_pos c2, if_pos (by omega)]
              simp; omega)
            clear hex c1 c2 hdr hdr1
            go_wp2_with fail
            go_ret
            exact ⟨by rw [HT.out]; simp, rfl⟩
          · have t3 : (((dp : Nat) : Int) - 1 == 0) = false := by rw [beq_eq_false_iff_ne]; omega
            have HK : Hid (cmt 0 s.data.toList = (cmt (dp - 1) (s.data.toList.drop (k + 2))).map (· + (k + 2))) := Lib.hid (by
              rw [HC.out, hdr, cmt, if_neg c1, if_pos c2, if_neg (by omega), Option.map_map]
              congr 1; funext x; simp; omega)
            clear hex c1 c2 hdr hdr1
            go_wp2_with fail
            go_round
            case rel => exact ⟨k + 2, dp - 1, by omega, by simp, by simp; omega, by omega, .inr (by omega), HK.out⟩
            case measure => simp [intOf]; omega
        · have t2 : ((s.extract k (k + 2)).toList == [42, 41]) = false := by
            rw [hex, beq_eq_false_iff_ne]; intro e; simp at e; exact c2 e
          have hk0 : 1 ≤ dp := by
            rcases hd2 with ⟨q1, q2⟩ | q
            · exfalso
              subst q1
              rw [List.drop_zero] at hdr
              rw [hdr] at h2
              simp at h2
              exact c1 h2
            · exact q
          have HK : Hid (cmt 0 s.data.toList = (cmt dp (s.data.toList.drop (k + 1))).map (· + (k + 1))) := Lib.hid (by
            rw [HC.out, hdr, cmt, if_neg c1, if_neg c2, hdr1, Option.map_map]
            congr 1; funext x; simp; omega)
          clear hex c1 c2 hdr hdr1
          go_wp2_with fail
          go_round
          case rel => exact ⟨k + 1, dp, by omega, by simp, rfl, by omega, .inr hk0, HK.out⟩
          case measure => simp [intOf]; omega
    · have hlt' : ¬ (k : Int) + 1 < (s.size : Int) := by omega
      have HT : Hid (((cmt 0 s.data.toList).getD 0 : Nat) = 0) := Lib.hid (by
        have : s.data.toList.drop k = [] ∨ ∃ a, s.data.toList.drop k = [a] := by
          by_cases hq : k < s.size
          · have : s.data.toList.drop (k + 1) = [] := List.drop_of_length_le (by rw [bytes_of]; omega)
            exact .inr ⟨s[k], by rw [byte_drop s k hq, this]⟩
          · exact .inl (List.drop_of_length_le (by rw [bytes_of]; omega))
        rw [HC.out]
        rcases this with q | ⟨a, q⟩ <;> (rw [q, cmt]; rfl))
      go_wp2_with fail
      go_ret
      exact ⟨by rw [HT.out]; rfl, rfl⟩
end Go.Proofs.YtggembknccbpnaaGreat
