/- Several texts in one. -/
import Derived.Test.YtliebhpddjbjeaaGreatDoorNiA
import Derived.Test.YtliebhpddjbjeaaGreatDoorTrC
import Derived.Test.YtliebhpddjbjeaaGreatDoorTrD
import Derived.Test.YtliebhpddjbjeaaGreatDoorTrM
import Derived.Test.YtliebhpddjbjeaaGreatDoorReC
import Derived.Test.YtliebhpddjbjeaaGreatDoorRtD
/- Where no tree stands: fold, Count, Deep, Same, and the document's answers. -/
namespace Go.Proofs.YtliebhpddjbjeaaGreatDoor
open Go.RowKit
set_option maxHeartbeats 2000000
set_option maxRecDepth 100000
set_option linter.unusedVariables false
set_option linter.unusedSimpArgs false

theorem fold_nil (w : World) (fv : Value) :
    Calls Tryz.prog 51 #[.pointer none, fv] w fun e w' => e = .returned (.int .i64 0) ∧ Below w.heap.size w w' := by
  have hmm := @run_makeMap Tryz.prog
  have B0 : Below w.heap.size w (w.alloc (.map #[] 0)) := below_new w _
  have HR := rising_nil (w.alloc (.map #[] 0))
  have pm0 := PMap.made w encP (okNd w.heap.size) (.int .i64 0)
  have s0 : (w.alloc (.map #[] 0)).heap.size = w.heap.size + 1 := by simp
  rw [s0] at HR
  go_enter Tryz.func51, Tryz.ntmps51
  go_wp2_with fail
  refine HR.mono ?_
  rintro e w1 ⟨rfl, B1⟩
  have pm1 : PMap w1 encP (okNd w.heap.size) w.heap.size (.int .i64 0) (fun _ => .int .i64 0) := pm0.keep (B1.block _ (by omega)) (fun a ha => ha.below (B1.mono (Nat.le_succ _)))
  have L0 := pm1.lookup (keyP w.heap.size) Tryz.underlying108 (zeroI w1) none (fun q hq => by cases hq)
  have HB := Lib.hid (B0.trans (B1.mono (Nat.le_succ _)))
  simp only [encP] at L0
  clear HR pm0 pm1 B1 B0
  go_wp2_with fail
  refine wp_loop_rounds 1 ?_
  rw [rounds_succ]
  go_wp2_with fail
  go_ret
  exact ⟨rfl, HB.out⟩
theorem Count_nil (w : World) :
    Calls Tryz.prog 22 #[.pointer none] w fun e w' => e = .returned (.int .i64 0) ∧ Below w.heap.size w w' := by
  have HF := fold_nil w (.func (.func 52) #[] #[])
  go_enter Tryz.func22, Tryz.ntmps22
  go_wp2_with fail
  refine HF.mono ?_
  rintro e w1 ⟨rfl, B1⟩
  have HB := Lib.hid B1
  clear HF B1
  go_wp2_with fail
  go_ret
  exact ⟨rfl, HB.out⟩
theorem Deep_nil (w : World) :
    Calls Tryz.prog 24 #[.pointer none] w fun e w' => e = .returned (.int .i64 0) ∧ Below w.heap.size w w' := by
  have HF := fold_nil w (.func (.func 53) #[] #[])
  go_enter Tryz.func24, Tryz.ntmps24
  go_wp2_with fail
  refine HF.mono ?_
  rintro e w1 ⟨rfl, B1⟩
  have HB := Lib.hid B1
  clear HF B1
  go_wp2_with fail
  go_ret
  exact ⟨rfl, HB.out⟩
theorem rCount_nil (w : World) : Calls Tryz.prog 23 #[.pointer none] w fun e w' => e = .returned (.int .i64 0) ∧ Below w.heap.size w w' := by
  go_enter Tryz.func23, Tryz.ntmps23
  go_wp2_with fail
  go_ret
  exact ⟨rfl, Below.refl _ _⟩
theorem rDeep_nil (w : World) : Calls Tryz.prog 25 #[.pointer none] w fun e w' => e = .returned (.int .i64 0) ∧ Below w.heap.size w w' := by
  go_enter Tryz.func25, Tryz.ntmps25
  go_wp2_with fail
  go_ret
  exact ⟨rfl, Below.refl _ _⟩
theorem rText_nil (w : World) : Calls Tryz.prog 27 #[.pointer none] w fun e w' => e = .returned (.string ⟨#[]⟩) ∧ Below w.heap.size w w' := by
  go_enter Tryz.func27, Tryz.ntmps27
  go_wp2_with fail
  go_ret
  exact ⟨rfl, Below.refl _ _⟩
theorem rCopy_nil (w : World) : Calls Tryz.prog 21 #[.pointer none] w fun e w' => e = .returned (.pointer none) ∧ Below w.heap.size w w' := by
  go_enter Tryz.func21, Tryz.ntmps21
  go_wp2_with fail
  go_ret
  exact ⟨rfl, Below.refl _ _⟩
theorem rSame_nn (w : World) : Calls Tryz.prog 20 #[.pointer none, .pointer none] w fun e w' => e = .returned (.bool true) ∧ Below w.heap.size w w' := by
  go_enter Tryz.func20, Tryz.ntmps20
  go_wp2_with fail
  go_ret
  exact ⟨rfl, Below.refl _ _⟩
theorem rSame_ns (w : World) (p : Nat) : Calls Tryz.prog 20 #[.pointer none, .pointer (some ⟨p, 0, none⟩)] w fun e w' => e = .returned (.bool false) ∧ Below w.heap.size w w' := by
  go_enter Tryz.func20, Tryz.ntmps20
  go_wp2_with fail
  go_ret
  exact ⟨rfl, Below.refl _ _⟩
theorem rSame_sn (w : World) (p : Nat) : Calls Tryz.prog 20 #[.pointer (some ⟨p, 0, none⟩), .pointer none] w fun e w' => e = .returned (.bool false) ∧ Below w.heap.size w w' := by
  go_enter Tryz.func20, Tryz.ntmps20
  go_wp2_with fail
  go_ret
  exact ⟨rfl, Below.refl _ _⟩
end Go.Proofs.YtliebhpddjbjeaaGreatDoor
/- Where no tree stands: Same. -/
namespace Go.Proofs.YtliebhpddjbjeaaGreatDoor
open Go.RowKit
set_option maxHeartbeats 2000000
set_option maxRecDepth 100000
set_option linter.unusedVariables false
set_option linter.unusedSimpArgs false

theorem Same_nn (w : World) :
    Calls Tryz.prog 19 #[.pointer none, .pointer none] w fun e w' => e = .returned (.bool true) ∧ Below w.heap.size w w' := by
  have hmm := @run_makeMap Tryz.prog
  obtain ⟨wA, hwA⟩ : ∃ wA, w.alloc (.cells #[.pointer none, .pointer none] 80) = wA := ⟨_, rfl⟩
  have hA : wA.heap[w.heap.size]? = some (.cells #[.pointer none, .pointer none] 80 (0, 0)) := by rw [← hwA]; exact heap_alloc_new _ _
  have B1 : Below w.heap.size w wA := by rw [← hwA]; exact below_new w _
  have s1 : wA.heap.size = w.heap.size + 1 := by rw [← hwA]; simp
  obtain ⟨wB, hwB⟩ : ∃ wB, wA.alloc (.map #[] 0) = wB := ⟨_, rfl⟩
  have FB : Fr [] wA wB := by rw [← hwB]; exact Fr.alloc _ _
  have s2 : wB.heap.size = w.heap.size + 2 := by rw [← hwB]; simp [s1]
  have hB := (FB.block w.heap.size (lt_heap hA) (by simp)).trans hA
  have cA : wB.cell? ⟨w.heap.size, 0, none⟩ = some (.pointer none) := by rw [Lib.cell_of_heap hB]; rfl
  have cB : wB.cell? ⟨w.heap.size, 1, none⟩ = some (.pointer none) := by rw [Lib.cell_of_heap hB]; rfl
  have pmB : PMap wB encQ (okQ w.heap.size) (w.heap.size + 1) (.int .i64 0) (fun _ => .int .i64 0) := by rw [← hwB, ← s1]; exact PMap.made _ _ _ _
  obtain ⟨wp, hwp⟩ : ∃ wp, wB.alloc (.cells #[.pointer none, .pointer none] 80) = wp := ⟨_, rfl⟩
  have FP : Fr [] wB wp := by rw [← hwp]; exact Fr.alloc _ _
  have hpb : wp.heap[w.heap.size + 2]? = some (.cells #[.pointer none, .pointer none] 80 (0, 0)) := by rw [← s2, ← hwp]; exact heap_alloc_new _ _
  have d0 : wp.cell? ⟨w.heap.size + 2, 0, none⟩ = some (.pointer none) := by rw [Lib.cell_of_heap hpb]; rfl
  have d1 : wp.cell? ⟨w.heap.size + 2, 1, none⟩ = some (.pointer none) := by rw [Lib.cell_of_heap hpb]; rfl
  have sp : wp.heap.size = w.heap.size + 3 := by rw [← hwp]; simp [s2]
  have BB : Below w.heap.size w wB := B1.trans (FB.below _ (by simp) (by omega))
  have BP : Below w.heap.size w wp := BB.trans (FP.below _ (by simp) (by omega))
  have SZ := Lib.hid s2
  have HX := Lib.hid (And.intro BP (And.intro hpb (And.intro s2 sp)))
  have HWP := Lib.hid hwp
  clear hwp d0 d1 s2 sp
  clear hA hB hpb FB FP pmB B1 BB BP
  go_enter Tryz.func19, Tryz.ntmps19
  go_wp2_with fail
  refine wp_loop_rounds 2 ?_
  rw [rounds_succ]
  go_wp2_with fail
  rw [rounds_succ]
  go_wp2_with fail
  go_ret
  exact ⟨rfl, by have := HX.out.1; rw [← HWP.out] at this; exact this⟩
theorem Same_ns (w : World) (p : Nat) (d : ND) (v : Value) (hp : p < w.heap.size) (hn : w.heap[p]? = some (nodeO d v)) :
    Calls Tryz.prog 19 #[.pointer none, .pointer (some ⟨p, 0, none⟩)] w fun e w' => e = .returned (.bool false) ∧ Below w.heap.size w w' := by
  have hmm := @run_makeMap Tryz.prog
  obtain ⟨wA, hwA⟩ : ∃ wA, w.alloc (.cells #[.pointer none, .pointer (some ⟨p, 0, none⟩)] 80) = wA := ⟨_, rfl⟩
  have hA : wA.heap[w.heap.size]? = some (.cells #[.pointer none, .pointer (some ⟨p, 0, none⟩)] 80 (0, 0)) := by rw [← hwA]; exact heap_alloc_new _ _
  have B1 : Below w.heap.size w wA := by rw [← hwA]; exact below_new w _
  have s1 : wA.heap.size = w.heap.size + 1 := by rw [← hwA]; simp
  obtain ⟨wB, hwB⟩ : ∃ wB, wA.alloc (.map #[] 0) = wB := ⟨_, rfl⟩
  have FB : Fr [] wA wB := by rw [← hwB]; exact Fr.alloc _ _
  have s2 : wB.heap.size = w.heap.size + 2 := by rw [← hwB]; simp [s1]
  have hB := (FB.block w.heap.size (lt_heap hA) (by simp)).trans hA
  have cA : wB.cell? ⟨w.heap.size, 0, none⟩ = some (.pointer none) := by rw [Lib.cell_of_heap hB]; rfl
  have cB : wB.cell? ⟨w.heap.size, 1, none⟩ = some (.pointer (some ⟨p, 0, none⟩)) := by rw [Lib.cell_of_heap hB]; rfl
  have pmB : PMap wB encQ (okQ w.heap.size) (w.heap.size + 1) (.int .i64 0) (fun _ => .int .i64 0) := by rw [← hwB, ← s1]; exact PMap.made _ _ _ _
  obtain ⟨wp, hwp⟩ : ∃ wp, wB.alloc (.cells #[.pointer none, .pointer (some ⟨p, 0, none⟩)] 80) = wp := ⟨_, rfl⟩
  have FP : Fr [] wB wp := by rw [← hwp]; exact Fr.alloc _ _
  have hpb : wp.heap[w.heap.size + 2]? = some (.cells #[.pointer none, .pointer (some ⟨p, 0, none⟩)] 80 (0, 0)) := by rw [← s2, ← hwp]; exact heap_alloc_new _ _
  have d0 : wp.cell? ⟨w.heap.size + 2, 0, none⟩ = some (.pointer none) := by rw [Lib.cell_of_heap hpb]; rfl
  have d1 : wp.cell? ⟨w.heap.size + 2, 1, none⟩ = some (.pointer (some ⟨p, 0, none⟩)) := by rw [Lib.cell_of_heap hpb]; rfl
  have sp : wp.heap.size = w.heap.size + 3 := by rw [← hwp]; simp [s2]
  have BB : Below w.heap.size w wB := B1.trans (FB.below _ (by simp) (by omega))
  have BP : Below w.heap.size w wp := BB.trans (FP.below _ (by simp) (by omega))
  have pmp : PMap wp encQ (okQ w.heap.size) (w.heap.size + 1) (.int .i64 0) (fun _ => .int .i64 0) := pmB.keep (FP.block _ pmB.lt (by simp)) (fun a ha => ⟨ha.1.below (FP.below _ (by simp) (by omega)), ha.2.below (FP.below _ (by simp) (by omega))⟩)
  have okp : okQ w.heap.size wp (none, some p) := ⟨fun q hq => (by cases hq), fun q hq => by obtain rfl : p = q := (by simpa using hq); exact ⟨hp, _, _, (BP.block p hp).trans hn⟩⟩
  have E0 := run_eqP wp none (some p) okp.1 okp.2
  rw [decide_eq_false (by simp)] at E0
  have L0 := pmp.lookup (keyQ w.heap.size) Tryz.underlying82 (zeroI wp) (none, some p) okp
  obtain ⟨w2, U0, pm2, g2⟩ := pmp.update (keyQ w.heap.size) Tryz.underlying82 (none, some p) okp (.int .i64 1)
  have hpb2 : w2.heap[w.heap.size + 2]? = some (.cells #[.pointer none, .pointer (some ⟨p, 0, none⟩)] 80 (0, 0)) := (g2.block _ (by omega) (fun e => by simp at e)).trans hpb
  have B2 : Below w.heap.size wp w2 := (Fr.of_grown g2).below _ (fun j hj => by simp at hj; omega) (by omega)
  have k0 : w2.cell? ⟨w.heap.size + 2, 0, none⟩ = some (.pointer none) := by rw [Lib.cell_of_heap hpb2]; rfl
  have k1 : w2.cell? ⟨w.heap.size + 2, 1, none⟩ = some (.pointer (some ⟨p, 0, none⟩)) := by rw [Lib.cell_of_heap hpb2]; rfl
  have HB2 := Lib.hid (BP.trans B2)
  simp only [encP, encQ, ptrV] at E0 L0 U0
  clear pmp okp pm2 g2 hpb2 B2
  have HX := Lib.hid (And.intro BP (And.intro hpb (And.intro s2 sp)))
  clear hA hB hpb FB FP pmB B1 BB BP
  go_enter Tryz.func19, Tryz.ntmps19
  go_wp2_with fail
  refine wp_loop_rounds 1 ?_
  rw [rounds_succ]
  go_wp2_with fail
  go_ret
  exact ⟨rfl, HB2.out⟩
theorem Same_sn (w : World) (p : Nat) (d : ND) (v : Value) (hp : p < w.heap.size) (hn : w.heap[p]? = some (nodeO d v)) :
    Calls Tryz.prog 19 #[.pointer (some ⟨p, 0, none⟩), .pointer none] w fun e w' => e = .returned (.bool false) ∧ Below w.heap.size w w' := by
  have hmm := @run_makeMap Tryz.prog
  obtain ⟨wA, hwA⟩ : ∃ wA, w.alloc (.cells #[.pointer (some ⟨p, 0, none⟩), .pointer none] 80) = wA := ⟨_, rfl⟩
  have hA : wA.heap[w.heap.size]? = some (.cells #[.pointer (some ⟨p, 0, none⟩), .pointer none] 80 (0, 0)) := by rw [← hwA]; exact heap_alloc_new _ _
  have B1 : Below w.heap.size w wA := by rw [← hwA]; exact below_new w _
  have s1 : wA.heap.size = w.heap.size + 1 := by rw [← hwA]; simp
  obtain ⟨wB, hwB⟩ : ∃ wB, wA.alloc (.map #[] 0) = wB := ⟨_, rfl⟩
  have FB : Fr [] wA wB := by rw [← hwB]; exact Fr.alloc _ _
  have s2 : wB.heap.size = w.heap.size + 2 := by rw [← hwB]; simp [s1]
  have hB := (FB.block w.heap.size (lt_heap hA) (by simp)).trans hA
  have cA : wB.cell? ⟨w.heap.size, 0, none⟩ = some (.pointer (some ⟨p, 0, none⟩)) := by rw [Lib.cell_of_heap hB]; rfl
  have cB : wB.cell? ⟨w.heap.size, 1, none⟩ = some (.pointer none) := by rw [Lib.cell_of_heap hB]; rfl
  have pmB : PMap wB encQ (okQ w.heap.size) (w.heap.size + 1) (.int .i64 0) (fun _ => .int .i64 0) := by rw [← hwB, ← s1]; exact PMap.made _ _ _ _
  obtain ⟨wp, hwp⟩ : ∃ wp, wB.alloc (.cells #[.pointer (some ⟨p, 0, none⟩), .pointer none] 80) = wp := ⟨_, rfl⟩
  have FP : Fr [] wB wp := by rw [← hwp]; exact Fr.alloc _ _
  have hpb : wp.heap[w.heap.size + 2]? = some (.cells #[.pointer (some ⟨p, 0, none⟩), .pointer none] 80 (0, 0)) := by rw [← s2, ← hwp]; exact heap_alloc_new _ _
  have d0 : wp.cell? ⟨w.heap.size + 2, 0, none⟩ = some (.pointer (some ⟨p, 0, none⟩)) := by rw [Lib.cell_of_heap hpb]; rfl
  have d1 : wp.cell? ⟨w.heap.size + 2, 1, none⟩ = some (.pointer none) := by rw [Lib.cell_of_heap hpb]; rfl
  have sp : wp.heap.size = w.heap.size + 3 := by rw [← hwp]; simp [s2]
  have BB : Below w.heap.size w wB := B1.trans (FB.below _ (by simp) (by omega))
  have BP : Below w.heap.size w wp := BB.trans (FP.below _ (by simp) (by omega))
  have hfr : wp.frozen? ⟨w.heap.size + 2, 1, none⟩ = false := Lib.frozen_of_heap hpb 1
  obtain ⟨wq, hwq⟩ : ∃ wq, wp.setCell ⟨w.heap.size + 2, 1, none⟩ (.pointer none) = wq := ⟨_, rfl⟩
  have FP : Fr [] wB wq := by rw [← hwq]; exact FP.trans (Fr.set _ _ _ _) (fun j hj => .inr (by simp at hj; omega))
  have hpb : wq.heap[w.heap.size + 2]? = some (.cells #[.pointer (some ⟨p, 0, none⟩), .pointer none] 80 (0, 0)) := by rw [← hwq]; simp [World.setCell, Array.getElem?_modify, hpb]
  have d0 : wq.cell? ⟨w.heap.size + 2, 0, none⟩ = some (.pointer (some ⟨p, 0, none⟩)) := by rw [Lib.cell_of_heap hpb]; rfl
  have d1 : wq.cell? ⟨w.heap.size + 2, 1, none⟩ = some (.pointer none) := by rw [Lib.cell_of_heap hpb]; rfl
  have sp : wq.heap.size = w.heap.size + 3 := by rw [← hwq]; simp [sp]
  have BP : Below w.heap.size w wq := BB.trans (FP.below _ (by simp) (by omega))
  have pmp : PMap wq encQ (okQ w.heap.size) (w.heap.size + 1) (.int .i64 0) (fun _ => .int .i64 0) := pmB.keep (FP.block _ pmB.lt (by simp)) (fun a ha => ⟨ha.1.below (FP.below _ (by simp) (by omega)), ha.2.below (FP.below _ (by simp) (by omega))⟩)
  have okp : okQ w.heap.size wq (some p, none) := ⟨fun q hq => by obtain rfl : p = q := (by simpa using hq); exact ⟨hp, _, _, (BP.block p hp).trans hn⟩, fun q hq => (by cases hq)⟩
  have E0 := run_eqP wq (some p) none okp.1 okp.2
  rw [decide_eq_false (by simp)] at E0
  have L0 := pmp.lookup (keyQ w.heap.size) Tryz.underlying82 (zeroI wq) (some p, none) okp
  obtain ⟨w2, U0, pm2, g2⟩ := pmp.update (keyQ w.heap.size) Tryz.underlying82 (some p, none) okp (.int .i64 1)
  have hpb2 : w2.heap[w.heap.size + 2]? = some (.cells #[.pointer (some ⟨p, 0, none⟩), .pointer none] 80 (0, 0)) := (g2.block _ (by omega) (fun e => by simp at e)).trans hpb
  have B2 : Below w.heap.size wq w2 := (Fr.of_grown g2).below _ (fun j hj => by simp at hj; omega) (by omega)
  have k0 : w2.cell? ⟨w.heap.size + 2, 0, none⟩ = some (.pointer (some ⟨p, 0, none⟩)) := by rw [Lib.cell_of_heap hpb2]; rfl
  have k1 : w2.cell? ⟨w.heap.size + 2, 1, none⟩ = some (.pointer none) := by rw [Lib.cell_of_heap hpb2]; rfl
  have HB2 := Lib.hid (BP.trans B2)
  simp only [encP, encQ, ptrV] at E0 L0 U0
  clear pmp okp pm2 g2 hpb2 B2
  have HX := Lib.hid (And.intro BP (And.intro hpb (And.intro s2 sp)))
  clear hA hB hpb FB FP pmB B1 BB BP
  go_enter Tryz.func19, Tryz.ntmps19
  go_wp2_with fail
  refine wp_loop_rounds 1 ?_
  rw [rounds_succ]
  go_wp2_with fail
  go_ret
  exact ⟨rfl, HB2.out⟩
end Go.Proofs.YtliebhpddjbjeaaGreatDoor
