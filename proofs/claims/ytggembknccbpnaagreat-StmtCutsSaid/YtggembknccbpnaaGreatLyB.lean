/- The document's answers of layer 4, walked: Word, Name. -/
import Derived.Test.YtggembknccbpnaaGreatLyA
import Derived.LoopTactic
namespace Go.Proofs.YtggembknccbpnaaGreat
open Go.RowKit
set_option maxHeartbeats 1000000
set_option maxRecDepth 100000
set_option linter.unusedVariables false

theorem words_cell (w : World) (k : Nat) (h : k < 40) : ∃ x, resv[k]? = some x ∧ (w.alloc (.cells (resv.map fun x => Value.string ⟨x.toArray⟩).toArray 9)).cell? ⟨w.heap.size, k, none⟩ = some (.string ⟨x.toArray⟩) := by
  have hl : k < resv.length := h
  refine ⟨resv[k], List.getElem?_eq_getElem hl, ?_⟩
  rw [World.cell?_alloc_at _ _ _ _ rfl]
  simp [List.getElem?_map, List.getElem?_eq_getElem hl]
theorem Word_any (s : ByteArray) (w : World) :
    Calls Tryz.prog 42 #[.string s] w fun e w' => e = .returned (.bool (wordB s.data.toList)) ∧ Below w.heap.size w w' := by
  have HC := fun k hk => words_cell w k hk
  have hb0 := below_new w (.cells (resv.map fun x => Value.string ⟨x.toArray⟩).toArray 9)
  go_enter Tryz.func42, Tryz.ntmps42
  go_wp2_with fail
  refine (Words_any _).mono ?_
  rintro e w1 ⟨rfl, hw⟩
  rw [← hw] at HC hb0
  clear hw
  go_wp2_with fail
  go_loop [4] (fun i => ∃ k : Nat, k ≤ 40 ∧ i = .int .i64 k ∧ ∀ j, j < k → resv[j]? ≠ some s.data.toList)
    (fun i => 40 - (intOf i).toNat)
  case atStart => exact ⟨0, by omega, rfl, fun j hj => absurd hj (by omega)⟩
  case round =>
    obtain ⟨k, hk, rfl, hno⟩ := hrel
    have HN := Lib.hid hno
    clear hno
    by_cases hlt : k < 40
    · obtain ⟨x, hx, hcell⟩ := HC k hlt
      have ht := str_test x s
      by_cases hxs : x = s.data.toList
      · rw [decide_eq_true hxs] at ht
        have HT : Hid (wordB s.data.toList = true) := Lib.hid (by
          unfold wordB
          refine List.contains_iff_mem.2 ?_
          rw [← hxs]
          exact List.mem_of_getElem? hx)
        clear hxs hx HC
        go_wp2_with fail
        go_ret
        exact ⟨by rw [HT.out]; rfl, hb0⟩
      · rw [decide_eq_false hxs] at ht
        have HK : Hid (∀ j, j < k + 1 → resv[j]? ≠ some s.data.toList) := Lib.hid (by
          intro j hj
          by_cases hjk : j = k
          · subst hjk; rw [hx]; intro e; injection e with e; exact hxs e
          · exact HN.out j (by omega))
        clear hxs hx HC
        go_wp2_with fail
        go_round
        case rel => exact ⟨k + 1, by omega, by simp, HK.out⟩
        case measure => simp [intOf]; omega
    · have hke : k = 40 := by omega
      subst hke
      have HT : Hid (wordB s.data.toList = false) := Lib.hid (by
        unfold wordB
        cases hq : resv.contains s.data.toList
        · rfl
        · obtain ⟨j, hj, hje⟩ := List.getElem_of_mem (List.contains_iff_mem.1 hq)
          have hj40 : j < 40 := hj
          exact absurd (by rw [List.getElem?_eq_getElem hj, hje]) (HN.out j hj40))
      clear HC
      go_wp2_with fail
      go_ret
      exact ⟨by rw [HT.out]; rfl, hb0⟩
end Go.Proofs.YtggembknccbpnaaGreat
