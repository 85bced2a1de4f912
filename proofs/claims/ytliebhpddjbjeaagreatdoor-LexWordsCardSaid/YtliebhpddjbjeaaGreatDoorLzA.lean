/- Package lex, walked: what a byte is; how many bytes of a kind stand at the beginning. -/
import Derived.Test.YtliebhpddjbjeaaGreatDoorLyM
namespace Go.Proofs.YtliebhpddjbjeaaGreatDoor
open Go.RowKit
set_option maxHeartbeats 1000000
set_option maxRecDepth 100000
set_option linter.unusedVariables false

theorem zletter_any (c : UInt8) (w : World) :
    Calls Tryz.prog 39 #[.int .u8 (c.toNat : Int)] w fun e w' => e = .returned (.bool (isLt c)) ∧ w' = w := by
  have hc : c.toNat < 65 ∨ (65 ≤ c.toNat ∧ c.toNat ≤ 90) ∨ (90 < c.toNat ∧ c.toNat < 97) ∨ (97 ≤ c.toNat ∧ c.toNat ≤ 122) ∨ 122 < c.toNat := by omega
  have HI : Hid (isLt c = ((decide (65 ≤ c.toNat) && decide (c.toNat ≤ 90)) || (decide (97 ≤ c.toNat) && decide (c.toNat ≤ 122)))) := Lib.hid rfl
  rcases hc with h | ⟨h, g⟩ | ⟨h, g⟩ | ⟨h, g⟩ | h
  all_goals
    go_enter Tryz.func39, Tryz.ntmps39
    go_wp2_with fail
    go_ret
    exact ⟨by rw [HI.out]; refine congrArg (fun b => Ending.returned (Value.bool b)) (Bool.eq_iff_iff.2 ?_); simp; omega, rfl⟩
theorem zdigit_any (c : UInt8) (w : World) :
    Calls Tryz.prog 74 #[.int .u8 (c.toNat : Int)] w fun e w' => e = .returned (.bool (isDg c)) ∧ w' = w := by
  have hc : c.toNat < 48 ∨ (48 ≤ c.toNat ∧ c.toNat ≤ 57) ∨ 57 < c.toNat := by omega
  have HI : Hid (isDg c = (decide (48 ≤ c.toNat) && decide (c.toNat ≤ 57))) := Lib.hid rfl
  rcases hc with h | ⟨h, g⟩ | h
  all_goals
    go_enter Tryz.func74, Tryz.ntmps74
    go_wp2_with fail
    go_ret
    exact ⟨by rw [HI.out]; refine congrArg (fun b => Ending.returned (Value.bool b)) (Bool.eq_iff_iff.2 ?_); simp; omega, rfl⟩
theorem bl_int (c : UInt8) : isBl c = (decide (c.toNat = 9) || decide (c.toNat = 10) || decide (c.toNat = 13) || decide (c.toNat = 32)) := by
  have h : ∀ k : UInt8, (c == k) = decide (c.toNat = k.toNat) := fun k => by
    by_cases e : c = k
    · subst e; simp
    · rw [beq_eq_false_iff_ne.2 e, decide_eq_false (fun h => e (UInt8.toNat_inj.1 h))]
  unfold isBl
  rw [h 9, h 10, h 13, h 32]; rfl
theorem zblank_any (c : UInt8) (w : World) :
    Calls Tryz.prog 107 #[.int .u8 (c.toNat : Int)] w fun e w' => e = .returned (.bool (isBl c)) ∧ w' = w := by
  have HI := Lib.hid (bl_int c)
  have hc : c.toNat = 9 ∨ c.toNat = 10 ∨ c.toNat = 13 ∨ c.toNat = 32 ∨ (c.toNat ≠ 9 ∧ c.toNat ≠ 10 ∧ c.toNat ≠ 13 ∧ c.toNat ≠ 32) := by omega
  rcases hc with h | h | h | h | ⟨h, h1, h2, h3⟩
  all_goals
    go_enter Tryz.func107, Tryz.ntmps107
  case inr.inr.inr.inr =>
    have q1 : ((c.toNat : Int) == 9) = false := beq_eq_false_iff_ne.2 (by omega)
    have q2 : ((c.toNat : Int) == 10) = false := beq_eq_false_iff_ne.2 (by omega)
    have q3 : ((c.toNat : Int) == 13) = false := beq_eq_false_iff_ne.2 (by omega)
    have q4 : ((c.toNat : Int) == 32) = false := beq_eq_false_iff_ne.2 (by omega)
    go_wp2_with fail
    go_ret
    exact ⟨by rw [HI.out]; simp [h, h1, h2, h3], rfl⟩
  all_goals
    rw [h]
    go_wp2_with fail
    go_ret
    exact ⟨by rw [HI.out]; simp [h], rfl⟩
theorem zname_any (c : UInt8) (w : World) :
    Calls Tryz.prog 41 #[.int .u8 (c.toNat : Int)] w fun e w' => e = .returned (.bool (isAn c)) ∧ w' = w := by
  have HL := fun w => zletter_any c w
  have HD := fun w => zdigit_any c w
  have HI : Hid (isAn c = (isLt c || isDg c)) := Lib.hid rfl
  generalize (c.toNat : Int) = n at *
  cases h : isLt c
  · rw [h] at HL
    go_enter Tryz.func41, Tryz.ntmps41
    go_wp2_with fail
    refine (HL _).mono ?_
    rintro e w1 ⟨rfl, rfl⟩
    go_wp2_with fail
    refine (HD _).mono ?_
    rintro e w1 ⟨rfl, rfl⟩
    go_wp2_with fail
    go_ret
    exact ⟨by rw [HI.out, h]; rfl, rfl⟩
  · rw [h] at HL
    go_enter Tryz.func41, Tryz.ntmps41
    go_wp2_with fail
    refine (HL _).mono ?_
    rintro e w1 ⟨rfl, rfl⟩
    go_wp2_with fail
    go_ret
    exact ⟨by rw [HI.out, h]; rfl, rfl⟩
theorem zhex_any (c : UInt8) (w : World) :
    Calls Tryz.prog 131 #[.int .u8 (c.toNat : Int)] w fun e w' => e = .returned (.bool (isHx c)) ∧ w' = w := by
  have HD := fun w => zdigit_any c w
  have HI : Hid (isHx c = (isDg c || (decide (65 ≤ c.toNat) && decide (c.toNat ≤ 70)))) := Lib.hid rfl
  cases h : isDg c
  · rw [h] at HD HI
    have hc : c.toNat < 65 ∨ (65 ≤ c.toNat ∧ c.toNat ≤ 70) ∨ 70 < c.toNat := by omega
    rcases hc with g | ⟨g, k⟩ | g
    all_goals
      go_enter Tryz.func131, Tryz.ntmps131
      go_wp2_with fail
      refine (HD _).mono ?_
      rintro e w1 ⟨rfl, rfl⟩
      go_wp2_with fail
      go_ret
      exact ⟨by rw [HI.out]; refine congrArg (fun b => Ending.returned (Value.bool b)) (Bool.eq_iff_iff.2 ?_); simp; omega, rfl⟩
  · rw [h] at HD HI
    go_enter Tryz.func131, Tryz.ntmps131
    go_wp2_with fail
    refine (HD _).mono ?_
    rintro e w1 ⟨rfl, rfl⟩
    go_wp2_with fail
    go_ret
    exact ⟨by rw [HI.out]; rfl, rfl⟩
theorem count_name (s : ByteArray) (hs : s.size ≤ 1048576) (w : World) :
    Calls Tryz.prog 40 #[.string s, .func (.func 41) #[] #[]] w fun e w' => e = .returned (.int .i64 (s.data.toList.takeWhile isAn).length) ∧ w' = w := by
  have HN := fun c w => zname_any c w
  go_enter Tryz.func40, Tryz.ntmps40
  go_wp2_with fail
  go_loop [8] (fun i => ∃ k : Nat, k ≤ s.size ∧ i = .int .i64 k ∧ farI isAn s.data.toList k) (fun i => s.size - (intOf i).toNat)
  case atStart => exact ⟨0, Nat.zero_le _, rfl, far_start _ _⟩
  case round =>
    obtain ⟨k, hk, rfl, hf⟩ := hrel
    by_cases hlt : k < s.size
    · have hb : s.data.toList[k]? = some s[k] := byte_get s k hlt
      obtain ⟨c, hc⟩ : ∃ c, s[k] = c := ⟨_, rfl⟩
      rw [hc] at hb
      have hcc := HN c
      cases hp : isAn c
      · have HT : Hid ((s.data.toList.takeWhile isAn).length = k) := Lib.hid (far_end isAn _ k (by rw [bytes_of]; exact hk) hf (fun b h => by rw [hb] at h; rw [← Option.some.inj h]; exact hp)).2
        rw [hp] at hcc
        clear hf hb hp HN
        go_wp2_with fail
        refine (hcc _).mono ?_
        rintro e w1 ⟨rfl, rfl⟩
        go_wp2_with fail
        go_ret
        exact ⟨by rw [HT.out]; first | done | rfl, rfl⟩
      · have HT := Lib.hid (far_step isAn _ k c hb hp hf)
        rw [hp] at hcc
        clear hf hb hp HN
        go_wp2_with fail
        refine (hcc _).mono ?_
        rintro e w1 ⟨rfl, rfl⟩
        go_wp2_with fail
        go_round
        case rel => exact ⟨k + 1, by omega, by simp, HT.out⟩
        case measure => simp [intOf]; omega
    · have hke : k = s.size := by omega
      have HT : Hid ((s.data.toList.takeWhile isAn).length = s.size) := Lib.hid ((far_end isAn _ k (by rw [bytes_of]; exact hk) hf (fun b h => by rw [List.getElem?_eq_none (by rw [bytes_of]; omega)] at h; cases h)).2.trans hke)
      clear hf HN
      go_wp2_with fail
      go_ret
      exact ⟨by rw [HT.out]; first | done | rfl, rfl⟩
theorem count_blank (s : ByteArray) (hs : s.size ≤ 1048576) (w : World) :
    Calls Tryz.prog 40 #[.string s, .func (.func 107) #[] #[]] w fun e w' => e = .returned (.int .i64 (s.data.toList.takeWhile isBl).length) ∧ w' = w := by
  have HN := fun c w => zblank_any c w
  go_enter Tryz.func40, Tryz.ntmps40
  go_wp2_with fail
  go_loop [8] (fun i => ∃ k : Nat, k ≤ s.size ∧ i = .int .i64 k ∧ farI isBl s.data.toList k) (fun i => s.size - (intOf i).toNat)
  case atStart => exact ⟨0, Nat.zero_le _, rfl, far_start _ _⟩
  case round =>
    obtain ⟨k, hk, rfl, hf⟩ := hrel
    by_cases hlt : k < s.size
    · have hb : s.data.toList[k]? = some s[k] := byte_get s k hlt
      obtain ⟨c, hc⟩ : ∃ c, s[k] = c := ⟨_, rfl⟩
      rw [hc] at hb
      have hcc := HN c
      cases hp : isBl c
      · have HT : Hid ((s.data.toList.takeWhile isBl).length = k) := Lib.hid (far_end isBl _ k (by rw [bytes_of]; exact hk) hf (fun b h => by rw [hb] at h; rw [← Option.some.inj h]; exact hp)).2
        rw [hp] at hcc
        clear hf hb hp HN
        go_wp2_with fail
        refine (hcc _).mono ?_
        rintro e w1 ⟨rfl, rfl⟩
        go_wp2_with fail
        go_ret
        exact ⟨by rw [HT.out]; first | done | rfl, rfl⟩
      · have HT := Lib.hid (far_step isBl _ k c hb hp hf)
        rw [hp] at hcc
        clear hf hb hp HN
        go_wp2_with fail
        refine (hcc _).mono ?_
        rintro e w1 ⟨rfl, rfl⟩
        go_wp2_with fail
        go_round
        case rel => exact ⟨k + 1, by omega, by simp, HT.out⟩
        case measure => simp [intOf]; omega
    · have hke : k = s.size := by omega
      have HT : Hid ((s.data.toList.takeWhile isBl).length = s.size) := Lib.hid ((far_end isBl _ k (by rw [bytes_of]; exact hk) hf (fun b h => by rw [List.getElem?_eq_none (by rw [bytes_of]; omega)] at h; cases h)).2.trans hke)
      clear hf HN
      go_wp2_with fail
      go_ret
      exact ⟨by rw [HT.out]; first | done | rfl, rfl⟩
theorem count_hex (s : ByteArray) (hs : s.size ≤ 1048576) (w : World) :
    Calls Tryz.prog 40 #[.string s, .func (.func 131) #[] #[]] w fun e w' => e = .returned (.int .i64 (s.data.toList.takeWhile isHx).length) ∧ w' = w := by
  have HN := fun c w => zhex_any c w
  go_enter Tryz.func40, Tryz.ntmps40
  go_wp2_with fail
  go_loop [8] (fun i => ∃ k : Nat, k ≤ s.size ∧ i = .int .i64 k ∧ farI isHx s.data.toList k) (fun i => s.size - (intOf i).toNat)
  case atStart => exact ⟨0, Nat.zero_le _, rfl, far_start _ _⟩
  case round =>
    obtain ⟨k, hk, rfl, hf⟩ := hrel
    by_cases hlt : k < s.size
    · have hb : s.data.toList[k]? = some s[k] := byte_get s k hlt
      obtain ⟨c, hc⟩ : ∃ c, s[k] = c := ⟨_, rfl⟩
      rw [hc] at hb
      have hcc := HN c
      cases hp : isHx c
      · have HT : Hid ((s.data.toList.takeWhile isHx).length = k) := Lib.hid (far_end isHx _ k (by rw [bytes_of]; exact hk) hf (fun b h => by rw [hb] at h; rw [← Option.some.inj h]; exact hp)).2
        rw [hp] at hcc
        clear hf hb hp HN
        go_wp2_with fail
        refine (hcc _).mono ?_
        rintro e w1 ⟨rfl, rfl⟩
        go_wp2_with fail
        go_ret
        exact ⟨by rw [HT.out]; first | done | rfl, rfl⟩
      · have HT := Lib.hid (far_step isHx _ k c hb hp hf)
        rw [hp] at hcc
        clear hf hb hp HN
        go_wp2_with fail
        refine (hcc _).mono ?_
        rintro e w1 ⟨rfl, rfl⟩
        go_wp2_with fail
        go_round
        case rel => exact ⟨k + 1, by omega, by simp, HT.out⟩
        case measure => simp [intOf]; omega
    · have hke : k = s.size := by omega
      have HT : Hid ((s.data.toList.takeWhile isHx).length = s.size) := Lib.hid ((far_end isHx _ k (by rw [bytes_of]; exact hk) hf (fun b h => by rw [List.getElem?_eq_none (by rw [bytes_of]; omega)] at h; cases h)).2.trans hke)
      clear hf HN
      go_wp2_with fail
      go_ret
      exact ⟨by rw [HT.out]; first | done | rfl, rfl⟩
end Go.Proofs.YtliebhpddjbjeaaGreatDoor
