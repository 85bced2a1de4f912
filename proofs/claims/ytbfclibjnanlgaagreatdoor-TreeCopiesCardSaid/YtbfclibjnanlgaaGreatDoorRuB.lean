/- Several texts in one. -/
import Derived.Test.YtbfclibjnanlgaaGreatDoorNiA
import Derived.Test.YtbfclibjnanlgaaGreatDoorTrC
import Derived.Test.YtbfclibjnanlgaaGreatDoorTrD
import Derived.Test.YtbfclibjnanlgaaGreatDoorTrM
import Derived.Test.YtbfclibjnanlgaaGreatDoorReC
import Derived.Test.YtbfclibjnanlgaaGreatDoorRtD
/- Where no tree stands: fold, Count, Deep, Same, and the document's answers. -/
namespace Go.Proofs.YtbfclibjnanlgaaGreatDoor
open Go.RowKit
set_option maxHeartbeats 2000000
set_option maxRecDepth 100000
set_option linter.unusedVariables false
set_option linter.unusedSimpArgs false

theorem fold_nil (w : World) (fv : Value) :
    Calls Tryz.prog 36 #[.pointer none, fv] w fun e w' => e = .returned (.int .i64 0) ∧ Below w.heap.size w w' := by
  have hmm := @run_makeMap Tryz.prog
  have B0 : Below w.heap.size w (w.alloc (.map #[] 0)) := below_new w _
  have HR := rising_nil (w.alloc (.map #[] 0))
  have pm0 := PMap.made w encP (okNd w.heap.size) (.int .i64 0)
  have s0 : (w.alloc (.map #[] 0)).heap.size = w.heap.size + 1 := by simp
  rw [s0] at HR
  go_enter Tryz.func36, Tryz.ntmps36
  go_wp2_with fail
  refine HR.mono ?_
  rintro e w1 ⟨rfl, B1⟩
  have pm1 : PMap w1 encP (okNd w.heap.size) w.heap.size (.int .i64 0) (fun _ => .int .i64 0) := pm0.keep (B1.block _ (by omega)) (fun a ha => ha.below (B1.mono (Nat.le_succ _)))
  have L0 := pm1.lookup (keyP w.heap.size) Tryz.underlying74 (zeroI w1) none (fun q hq => by cases hq)
  have HB := Lib.hid (B0.trans (B1.mono (Nat.le_succ _)))
  simp only [encP] at L0
  clear HR pm0 pm1 B1 B0
  go_wp2_with fail
  refine wp_loop_rounds 1 ?_
  rw [rounds_succ]
  go_wp2_with fail
  go_ret
  exact ⟨rfl, HB.out⟩
theorem Count_nil (w : World) :
    Calls Tryz.prog 16 #[.pointer none] w fun e w' => e = .returned (.int .i64 0) ∧ Below w.heap.size w w' := by
  have HF := fold_nil w (.func (.func 37) #[] #[])
  go_enter Tryz.func16, Tryz.ntmps16
  go_wp2_with fail
  refine HF.mono ?_
  rintro e w1 ⟨rfl, B1⟩
  have HB := Lib.hid B1
  clear HF B1
  go_wp2_with fail
  go_ret
  exact ⟨rfl, HB.out⟩
theorem Deep_nil (w : World) :
    Calls Tryz.prog 17 #[.pointer none] w fun e w' => e = .returned (.int .i64 0) ∧ Below w.heap.size w w' := by
  have HF := fold_nil w (.func (.func 38) #[] #[])
  go_enter Tryz.func17, Tryz.ntmps17
  go_wp2_with fail
  refine HF.mono ?_
  rintro e w1 ⟨rfl, B1⟩
  have HB := Lib.hid B1
  clear HF B1
  go_wp2_with fail
  go_ret
  exact ⟨rfl, HB.out⟩
theorem rCopy_nil (w : World) : Calls Tryz.prog 8 #[.pointer none] w fun e w' => e = .returned (.pointer none) ∧ Below w.heap.size w w' := by
  go_enter Tryz.func8, Tryz.ntmps8
  go_wp2_with fail
  go_ret
  exact ⟨rfl, Below.refl _ _⟩
theorem rSame_nn (w : World) : Calls Tryz.prog 22 #[.pointer none, .pointer none] w fun e w' => e = .returned (.bool true) ∧ Below w.heap.size w w' := by
  go_enter Tryz.func22, Tryz.ntmps22
  go_wp2_with fail
  go_ret
  exact ⟨rfl, Below.refl _ _⟩
theorem rSame_ns (w : World) (p : Nat) : Calls Tryz.prog 22 #[.pointer none, .pointer (some ⟨p, 0, none⟩)] w fun e w' => e = .returned (.bool false) ∧ Below w.heap.size w w' := by
  go_enter Tryz.func22, Tryz.ntmps22
  go_wp2_with fail
  go_ret
  exact ⟨rfl, Below.refl _ _⟩
theorem rSame_sn (w : World) (p : Nat) : Calls Tryz.prog 22 #[.pointer (some ⟨p, 0, none⟩), .pointer none] w fun e w' => e = .returned (.bool false) ∧ Below w.heap.size w w' := by
  go_enter Tryz.func22, Tryz.ntmps22
  go_wp2_with fail
  go_ret
  exact ⟨rfl, Below.refl _ _⟩
end Go.Proofs.YtbfclibjnanlgaaGreatDoor
