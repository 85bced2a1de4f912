/- Layer 3's laws: PlaceLines. -/
import Derived.Test.YtgilhfojfmgjbaaDoorPpH
namespace Go.Proofs.YtgilhfojfmgjbaaDoor
open Go.RowKit
set_option maxHeartbeats 400000
set_option maxRecDepth 100000
set_option linter.unusedVariables false

theorem lines_heavy (s : ByteArray) (h : decide (4096 < s.size) = true) (w : World) (hE : Env w) :
    Calls Tryd.prog 7 #[.string s] w fun e w' => e = .returned (.bool true) ∧ Below w.heap.size w w' := by
  have hh := fun w => heavy_any s w
  rw [h] at hh
  have HE := Lib.hid hE
  clear hE h
  go_enter Tryd.func7, Tryd.ntmps7
  go_wp2_with fail
  refine (hh _).mono ?_
  rintro e v1 ⟨rfl, rfl⟩
  go_wp2_with fail
  refine (works_any _ HE.out).mono ?_
  rintro e vv ⟨rfl, B⟩
  go_wp2_with fail
  go_ret
  exact ⟨rfl, B⟩
theorem byte_step (s : ByteArray) (k : Nat) (h : k < s.size) (l c : Int) (hg : goB 1 1 (s.data.toList.take k) = (l, c)) (hp : isP l c = true) (hq : isP (stepL l s[k]) (stepC c s[k]) = true) : goB 1 1 (s.data.toList.take (k + 1)) = (stepL l s[k], stepC c s[k]) := by
  rw [take_next1 s k h, goB_append, hg, extract_one s k h]
  show goB l c [s[k]] = _
  rw [goB_cons l c _ _ hp, goB_nil _ _ hq]
theorem lines_light (s : ByteArray) (h : decide (4096 < s.size) = false) (w : World) (hE : Env w) :
    Calls Tryd.prog 7 #[.string s] w fun e w' => e = .returned (.bool true) ∧ Below w.heap.size w w' := by
  have hh := fun w => heavy_any s w
  rw [h] at hh
  have hs : s.size ≤ 4096 := by simpa using h
  have hlen : s.data.toList.length = s.size := by rw [Array.length_toList]; rfl
  have HL := Lib.hid hlen
  have HE := Lib.hid hE
  clear hE h hlen
  go_enter Tryd.func7, Tryd.ntmps7
  go_wp2_with fail
  refine (hh _).mono ?_
  rintro e v1 ⟨rfl, rfl⟩
  clear hh
  go_wp2_with fail
  go_loop [3, 4, 5] (fun n t i => ∃ (k : Nat) (l c : Int), k ≤ s.size ∧ n = .int .i64 l ∧ t = .int .i64 c ∧ i = .int .i64 k ∧ 0 ≤ l ∧ l ≤ k ∧ 0 ≤ c ∧ c ≤ k ∧ goB 1 1 (s.data.toList.take k) = (l + 1, k - c + 1))
    (fun n t i => s.size - (intOf i).toNat)
  case atStart => exact ⟨0, 0, 0, by omega, rfl, rfl, rfl, by omega, by omega, by omega, by omega, rfl⟩
  case round =>
    obtain ⟨k, l, c, hk, rfl, rfl, rfl, l0, l1, c0, c1, hgo⟩ := hrel
    have HG := Lib.hid hgo
    clear hgo
    by_cases hlt : k < s.size
    · have hp : isP (l + 1) (k - c + 1) = true := (isP_iff _ _).2 ⟨by omega, by omega, by omega, by omega⟩
      obtain ⟨b, hb⟩ : ∃ b, s[k] = b := ⟨_, rfl⟩
      obtain ⟨q1, q2, q3, q4, q5⟩ := step_in (l + 1) (k - c + 1) b (by omega) (by omega)
      have HS := Lib.hid (byte_step s k hlt (l + 1) (k - c + 1) HG.out hp (by rw [hb]; exact (isP_iff _ _).2 ⟨by omega, by omega, by omega, by omega⟩))
      rw [hb] at HS
      have hbt := byte_ten b
      clear q1 q2 q3 q4 q5 hp
      by_cases h10 : b = 10
      · rw [decide_eq_true h10] at hbt
        have HT : Hid (goB 1 1 (s.data.toList.take (k + 1)) = (l + 1 + 1, 1)) := Lib.hid (by rw [HS.out]; unfold stepL stepC; rw [if_pos h10, if_pos h10])
        clear h10 HS HG
        go_wp2_with fail
        go_round
        case rel => exact ⟨k + 1, l + 1, k + 1, by omega, rfl, rfl, by simp, by omega, by omega, by omega, by omega, by rw [HT.out, show ((k + 1 : Nat) : Int) - (k + 1) + 1 = 1 by omega]⟩
        case measure => simp [intOf]; omega
      · rw [decide_eq_false h10] at hbt
        have HT : Hid (goB 1 1 (s.data.toList.take (k + 1)) = (l + 1, k - c + 1 + 1)) := Lib.hid (by rw [HS.out]; unfold stepL stepC; rw [if_neg h10, if_neg h10])
        clear h10 HS HG
        go_wp2_with fail
        go_round
        case rel => exact ⟨k + 1, l, c, by omega, rfl, rfl, by simp, by omega, by omega, by omega, by omega, by rw [HT.out, show ((k + 1 : Nat) : Int) - c + 1 = k - c + 1 + 1 by omega]⟩
        case measure => simp [intOf]; omega
    · have hke : k = s.size := by omega
      subst hke
      have hp : isP (l + 1) (s.size - c + 1) = true := (isP_iff _ _).2 ⟨by omega, by omega, by omega, by omega⟩
      have hall : goB 1 1 s.data.toList = (l + 1, s.size - c + 1) := by
        have := HG.out
        rw [List.take_of_length_le (by have := HL.out; omega)] at this
        exact this
      have hB := fun w => Begin_any w
      have hBh := fun w => Behind_any 1 1 s (by omega) w
      rw [hall] at hBh
      have hL := fun w => Line_any (l + 1) (s.size - c + 1) w
      have hC := fun w => Column_any (l + 1) (s.size - c + 1) w
      rw [show lnOf (l + 1) (s.size - c + 1) = l + 1 by unfold lnOf; rw [hp]; rfl] at hL
      rw [show coOf (l + 1) (s.size - c + 1) = s.size - c + 1 by unfold coOf; rw [hp]; rfl] at hC
      obtain ⟨x1, y1, e1⟩ := posV_cx 1 1
      obtain ⟨x2, y2, e2⟩ := posV_cx (l + 1) (s.size - c + 1)
      simp only [e1, e2] at hB hBh hL hC
      clear e1 e2 hall hp HG HL
      go_wp2_with fail
      refine (hB _).mono ?_
      rintro e v2 ⟨rfl, rfl⟩
      go_wp2_with fail
      refine (hBh _).mono ?_
      rintro e v3 ⟨rfl, rfl⟩
      go_wp2_with fail
      refine (hL _).mono ?_
      rintro e v4 ⟨rfl, rfl⟩
      go_wp2_with fail
      refine (hC _).mono ?_
      rintro e v5 ⟨rfl, rfl⟩
      go_wp2_with fail
      refine (works_any _ HE.out).mono ?_
      rintro e vv ⟨rfl, B⟩
      go_wp2_with fail
      go_ret
      exact ⟨rfl, B⟩
theorem lines_any (s : ByteArray) (w : World) (hE : Env w) :
    Calls Tryd.prog 7 #[.string s] w fun e w' => e = .returned (.bool true) ∧ Below w.heap.size w w' := by
  cases h : decide (4096 < s.size)
  · exact lines_light s h w hE
  · exact lines_heavy s h w hE
end Go.Proofs.YtgilhfojfmgjbaaDoor
