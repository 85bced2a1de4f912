/- What the library's variables hold while a row's call runs. -/
import Derived.Test.YtbfclibjnanlgaaGreatDoorPlZ
import Derived.Test.YtbfclibjnanlgaaGreatDoorShelf
import Derived.Lib.SmallJoins
import Derived.Lib.AppendIntMem
import Derived.Outline
import Derived.Lib.LaidTab
namespace Go.Proofs.YtbfclibjnanlgaaGreatDoor
open Go.RowKit
set_option maxHeartbeats 1000000
set_option maxRecDepth 100000
set_option linter.unusedVariables false

theorem gTab : Tryz.prog.globalNamed "internal/strconv.uint64pow10" = some 1 := by kernel_rfl
/-- What the library's variables hold while a row's call runs. -/
structure Env (w : World) : Prop where
  tab : Lib.TabIs Tryz.prog w "internal/strconv.uint64pow10" .u64 Lib.pow10Tab
  mx : ∃ m, w.cell? ⟨4, 0, none⟩ = some (.int .i64 m)
  sy : ∃ ev, w.cell? ⟨2, 0, none⟩ = some ev ∧ (ev = .nilIface ∨ ∃ te pe, ev = .iface te pe)
  rg : ∃ ev, w.cell? ⟨3, 0, none⟩ = some ev ∧ (ev = .nilIface ∨ ∃ te pe, ev = .iface te pe)
  tz : w.cell? ⟨8, 7, none⟩ = some (.int .u8 3)
theorem Env.below {w w' : World} (h : Env w) (hb : Below w.heap.size w w') : Env w' := by
  refine ⟨Joins.tab_stays gTab h.tab hb (Nat.le_refl _), ?_, ?_, ?_, (hb.cell (Lib.lt_of_cell h.tz)).trans h.tz⟩
  · obtain ⟨m, hm⟩ := h.mx
    exact ⟨m, (hb.cell (Lib.lt_of_cell hm)).trans hm⟩
  · obtain ⟨ev, he, hk⟩ := h.sy
    exact ⟨ev, (hb.cell (Lib.lt_of_cell he)).trans he, hk⟩
  · obtain ⟨ev, he, hk⟩ := h.rg
    exact ⟨ev, (hb.cell (Lib.lt_of_cell he)).trans he, hk⟩
theorem below_drewN (w : World) (n : Nat) : Below w.heap.size w (w.drewN n) := ⟨rfl, rfl, rfl, Nat.le_refl _, fun _ _ => rfl⟩
end Go.Proofs.YtbfclibjnanlgaaGreatDoor
