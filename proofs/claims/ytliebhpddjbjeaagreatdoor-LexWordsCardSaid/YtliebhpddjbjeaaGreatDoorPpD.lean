/- Package place, walked: Behind. -/
import Derived.Test.YtliebhpddjbjeaaGreatDoorPpC
import Derived.Test.YtliebhpddjbjeaaGreatDoorPlZ
namespace Go.Proofs.YtliebhpddjbjeaaGreatDoor
open Go.RowKit
set_option maxHeartbeats 400000
set_option maxRecDepth 100000
set_option linter.unusedVariables false

theorem Behind_any (l c : Int) (s : ByteArray) (hs : s.size ≤ 1048576) (w : World) :
    Calls Tryz.prog 91 #[posV l c, .string s] w fun e w' => e = .returned (posV (goB l c s.data.toList).1 (goB l c s.data.toList).2) ∧ w' = w := by
  have HS := sure_pos l c
  obtain ⟨x0, y0, e0⟩ := posV_cx l c
  have HX := Lib.hid e0
  rw [e0] at HS ⊢
  clear e0
  go_enter Tryz.func91, Tryz.ntmps91
  go_wp2_with fail
  refine (HS _).mono ?_
  rintro e w1 ⟨rfl, rfl⟩
  clear HS
  go_wp2_with fail
  go_loop [0, 5] (fun p i => ∃ (k : Nat) (l1 c1 : Int), k ≤ s.size ∧ p = posV l1 c1 ∧ i = .int .i64 k ∧ goB l c s.data.toList = goB l1 c1 (s.data.toList.drop k))
    (fun p i => s.size - (intOf i).toNat)
  case atStart => exact ⟨0, l, c, Nat.zero_le _, HX.out.symm, rfl, rfl⟩
  case round =>
    obtain ⟨k, l1, c1, hk, rfl, rfl, hgo⟩ := hrel
    have HG := Lib.hid hgo
    clear hgo HX
    have qn := fun t w => neq_none (P := Tryz.prog) l1 c1 t w
    cases hp : isP l1 c1
    · rw [hp] at qn
      have HT : Hid (posV (goB l c s.data.toList).1 (goB l c s.data.toList).2 = posV l1 c1) := Lib.hid (by
        rw [HG.out, goB_none l1 c1 _ hp, posV_none l1 c1 hp]; exact posV_none 0 0 isP_zero)
      obtain ⟨x, y, e1⟩ := posV_cx l1 c1
      rw [e1] at qn HT ⊢
      clear e1 HG hp
      by_cases hlt : k < s.size
      · go_wp2_with fail
        go_ret
        exact ⟨by rw [HT.out]; rfl, rfl⟩
      · have hke : k = s.size := by omega
        subst hke
        go_wp2_with fail
        go_ret
        exact ⟨by rw [HT.out]; rfl, rfl⟩
    · rw [hp] at qn
      by_cases hlt : k < s.size
      · have HN := fun b => next_any l1 c1 hp b
        have HD : Hid (goB l c s.data.toList = goB (stepL l1 s[k]) (stepC c1 s[k]) (s.data.toList.drop (k + 1))) := Lib.hid (by
          rw [HG.out, byte_drop s k hlt, goB_cons l1 c1 _ _ hp])
        obtain ⟨x, y, e1⟩ := posV_cx l1 c1
        rw [e1] at qn ⊢
        simp only [e1] at HN
        clear e1 HG
        obtain ⟨b, hb⟩ : ∃ b, s[k] = b := ⟨_, rfl⟩
        rw [hb] at HD
        go_wp2_with fail
        refine (HN b _).mono ?_
        rintro e w2 ⟨rfl, rfl⟩
        go_wp2_with fail
        go_round
        case rel => exact ⟨k + 1, stepL l1 b, stepC c1 b, by omega, rfl, by simp, HD.out⟩
        case measure => simp [intOf]; omega
      · have hke : k = s.size := by omega
        subst hke
        have HT : Hid (posV (goB l c s.data.toList).1 (goB l c s.data.toList).2 = posV l1 c1) := Lib.hid (by
          have e : s.data.toList.drop s.size = [] := List.drop_eq_nil_of_le (by rw [Array.length_toList]; exact Nat.le_refl _)
          rw [HG.out, e, goB_nil l1 c1 hp])
        obtain ⟨x, y, e1⟩ := posV_cx l1 c1
        rw [e1] at qn HT ⊢
        clear e1 HG
        go_wp2_with fail
        go_ret
        exact ⟨by rw [HT.out]; rfl, rfl⟩
end Go.Proofs.YtliebhpddjbjeaaGreatDoor
