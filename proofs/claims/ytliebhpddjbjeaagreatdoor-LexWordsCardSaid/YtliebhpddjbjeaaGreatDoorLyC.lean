/- The document's answers of layer 4, walked: Name, comment. -/
import Derived.Test.YtliebhpddjbjeaaGreatDoorLyB
namespace Go.Proofs.YtliebhpddjbjeaaGreatDoor
open Go.RowKit
set_option maxHeartbeats 1000000
set_option maxRecDepth 100000
set_option linter.unusedVariables false

theorem Name_any (s : ByteArray) (hs : s.size ≤ 1048576) (w : World) :
    Calls Tryz.prog 13 #[.string s] w fun e w' => e = .returned (.bool (nameB s.data.toList)) ∧ Below w.heap.size w w' := by
  have hem := empty_test s
  by_cases h0 : s.size = 0
  · rw [decide_eq_true h0] at hem
    have HT : Hid (nameB s.data.toList = false) := Lib.hid (by
      have : s.data.toList = [] := List.length_eq_zero_iff.1 (by rw [bytes_of]; exact h0)
      rw [this]; rfl)
    go_enter Tryz.func13, Tryz.ntmps13
    go_wp2_with fail
    go_ret
    exact ⟨by rw [HT.out]; rfl, Below.refl _ _⟩
  · rw [decide_eq_false h0] at hem
    have h0' : 0 < s.size := by omega
    have HD : Hid (nameB s.data.toList = (!s.data.toList.isEmpty && decide (s.data.toList.length ≤ 32) && (s.data.toList.take 1).all isLt && !wordB s.data.toList && s.data.toList.all isAn)) := Lib.hid rfl
    by_cases h32 : 32 < s.size
    · have HT : Hid (nameB s.data.toList = false) := Lib.hid (by
        rw [HD.out, bytes_of, decide_eq_false (by omega : ¬ s.size ≤ 32)]; simp)
      go_enter Tryz.func13, Tryz.ntmps13
      go_wp2_with fail
      go_ret
      exact ⟨by rw [HT.out]; rfl, Below.refl _ _⟩
    · obtain ⟨r, hr⟩ := byte_cons s h0'
      have HL := fun w => letter_any s[0] w
      have HW := fun w => Word_any s w
      obtain ⟨c, hc⟩ : ∃ c, s[0] = c := ⟨_, rfl⟩
      rw [hc] at HL hr
      cases hl : isLt c
      · have HT : Hid (nameB s.data.toList = false) := Lib.hid (by
          rw [HD.out, hr, show (c :: r).take 1 = [c] from rfl, show [c].all isLt = false by simp [hl]]; simp)
        rw [hl] at HL
        clear HW hr hl
        go_enter Tryz.func13, Tryz.ntmps13
        go_wp2_with fail
        refine (HL _).mono ?_
        rintro e w1 ⟨rfl, rfl⟩
        go_wp2_with fail
        go_ret
        exact ⟨by rw [HT.out]; rfl, Below.refl _ _⟩
      · rw [hl] at HL
        cases hw : wordB s.data.toList
        · have HA : Hid (nameB s.data.toList = s.data.toList.all isAn) := Lib.hid (by
            rw [HD.out, hw, hr, show (c :: r).take 1 = [c] from rfl, show [c].all isLt = true by simp [hl], ← hr, bytes_of, decide_eq_true (by omega : s.size ≤ 32)]
            rw [show s.data.toList.isEmpty = false by rw [hr]; rfl]; simp)
          rw [hw] at HW
          clear hr hl hw HD
          go_enter Tryz.func13, Tryz.ntmps13
          go_wp2_with fail
          refine (HL _).mono ?_
          rintro e w1 ⟨rfl, rfl⟩
          go_wp2_with fail
          refine (HW _).mono ?_
          rintro e w2 ⟨rfl, hb⟩
          clear HL HW
          go_wp2_with fail
          go_loop [3] (fun i => ∃ k : Nat, k ≤ s.size ∧ i = .int .i64 k ∧ ∀ j b, j < k → s.data.toList[j]? = some b → isAn b = true)
            (fun i => s.size - (intOf i).toNat)
          case atStart => exact ⟨0, by omega, rfl, fun j b hj => absurd hj (by omega)⟩
          case round =>
            obtain ⟨k, hk, rfl, hno⟩ := hrel
            have HN := Lib.hid hno
            clear hno
            by_cases hlt : k < s.size
            · have HL := fun w => letter_any s[k] w
              have HG := fun w => digit_any s[k] w
              have hget := Lib.hid (byte_get s k hlt)
              obtain ⟨b, hb2⟩ : ∃ b, s[k] = b := ⟨_, rfl⟩
              rw [hb2] at HL HG hget
              have HK : isAn b = true → Hid (∀ j b, j < k + 1 → s.data.toList[j]? = some b → isAn b = true) := fun ha => Lib.hid (by
                intro j b' hj hjb
                by_cases hjk : j = k
                · subst hjk; rw [hget.out] at hjb; injection hjb with hjb; rw [← hjb]; exact ha
                · exact HN.out j b' (by omega) hjb)
              cases hl : isLt b
              · rw [hl] at HL
                cases hg : isDg b
                · rw [hg] at HG
                  have HT : Hid (nameB s.data.toList = false) := Lib.hid (by
                    rw [HA.out]
                    cases hq : s.data.toList.all isAn
                    · rfl
                    · have := List.all_eq_true.1 hq b (List.mem_of_getElem? hget.out)
                      unfold isAn at this
                      rw [hl, hg] at this; cases this)
                  clear HK hl hg
                  go_wp2_with fail
                  refine (HL _).mono ?_
                  rintro e w3 ⟨rfl, rfl⟩
                  go_wp2_with fail
                  refine (HG _).mono ?_
                  rintro e w4 ⟨rfl, rfl⟩
                  go_wp2_with fail
                  go_ret
                  exact ⟨by rw [HT.out]; rfl, hb⟩
                · rw [hg] at HG
                  have HK := HK (by unfold isAn; rw [hg]; simp)
                  clear hl hg
                  go_wp2_with fail
                  refine (HL _).mono ?_
                  rintro e w3 ⟨rfl, rfl⟩
                  go_wp2_with fail
                  refine (HG _).mono ?_
                  rintro e w4 ⟨rfl, rfl⟩
                  go_wp2_with fail
                  go_round
                  case rel => exact ⟨k + 1, by omega, by simp, HK.out⟩
                  case measure => simp [intOf]; omega
              · rw [hl] at HL
                have HK := HK (by unfold isAn; rw [hl]; rfl)
                clear hl HG
                go_wp2_with fail
                refine (HL _).mono ?_
                rintro e w3 ⟨rfl, rfl⟩
                go_wp2_with fail
                go_round
                case rel => exact ⟨k + 1, by omega, by simp, HK.out⟩
                case measure => simp [intOf]; omega
            · have hke : k = s.size := by omega
              subst hke
              have HT : Hid (nameB s.data.toList = true) := Lib.hid (by
                rw [HA.out]
                refine List.all_eq_true.2 fun b hb => ?_
                obtain ⟨j, hj, hje⟩ := List.getElem_of_mem hb
                exact HN.out j b (by rw [bytes_of] at hj; exact hj) (by rw [List.getElem?_eq_getElem hj, hje]))
              go_wp2_with fail
              go_ret
              exact ⟨by rw [HT.out]; rfl, hb⟩
        · have HT : Hid (nameB s.data.toList = false) := Lib.hid (by rw [HD.out, hw]; simp)
          rw [hw] at HW
          clear hr hl hw HD
          go_enter Tryz.func13, Tryz.ntmps13
          go_wp2_with fail
          refine (HL _).mono ?_
          rintro e w1 ⟨rfl, rfl⟩
          go_wp2_with fail
          refine (HW _).mono ?_
          rintro e w2 ⟨rfl, hb⟩
          go_wp2_with fail
          go_ret
          exact ⟨by rw [HT.out]; rfl, hb⟩
end Go.Proofs.YtliebhpddjbjeaaGreatDoor
