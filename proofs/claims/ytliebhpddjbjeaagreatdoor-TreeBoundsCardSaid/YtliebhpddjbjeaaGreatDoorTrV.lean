/- tree.rising, walked. -/
import Derived.Test.YtliebhpddjbjeaaGreatDoorTrU
namespace Go.Proofs.YtliebhpddjbjeaaGreatDoor
open Go.RowKit
set_option maxHeartbeats 2000000
set_option maxRecDepth 100000
set_option linter.unusedVariables false

def R1 (w : World) : World := w.alloc (.cells #[.slice none 0 0] 76)
def R2 (w : World) : World := (R1 w).alloc (.cells #[.slice none 0 0] 76)
def R3 (w : World) : World := (R2 w).alloc (.map #[] 0)
def R4 (w : World) : World := (R3 w).alloc (.cells #[.map (some (w.heap.size + 2))] 108)
def R5 (w : World) : World := (R4 w).alloc (.cells #[.bool false] 4)
theorem r5_fr (w : World) : Fr [] w (R5 w) ∧ (R5 w).heap.size = w.heap.size + 5 := by
  refine ⟨?_, by simp [R5, R4, R3, R2, R1]⟩
  exact ((((Fr.alloc _ _).trans (Fr.alloc _ _) (by simp)).trans (Fr.alloc _ _) (by simp)).trans (Fr.alloc _ _) (by simp)).trans (Fr.alloc _ _) (by simp)
theorem r5_ri (w : World) : RI w.heap.size (w.heap.size + 4) (w.heap.size + 3) (w.heap.size + 2) (w.heap.size + 1) w.heap.size ⟨[], [], []⟩ [w.heap.size + 4, w.heap.size + 3, w.heap.size + 2, w.heap.size + 1, w.heap.size] (R5 w) (.slice none 0 0) (.slice none 0 0) (fun _ => .int .i64 0) := by
  have s1 : (R1 w).heap.size = w.heap.size + 1 := by simp [R1]
  have s2 : (R2 w).heap.size = w.heap.size + 2 := by simp [R2, R1]
  have s3 : (R3 w).heap.size = w.heap.size + 3 := by simp [R3, R2, R1]
  have s4 : (R4 w).heap.size = w.heap.size + 4 := by simp [R4, R3, R2, R1]
  have v1 : Var (R1 w) w.heap.size 76 (.slice none 0 0) := heap_alloc_new _ _
  have v2 : Var (R2 w) (w.heap.size + 1) 76 (.slice none 0 0) := by rw [← s1]; exact heap_alloc_new _ _
  have v3 : PMap (R3 w) encP (okNd w.heap.size) (w.heap.size + 2) (.int .i64 0) (fun _ => .int .i64 0) := by rw [← s2]; exact PMap.made _ _ _ _
  have v4 : Var (R4 w) (w.heap.size + 3) 108 (.map (some (w.heap.size + 2))) := by rw [← s3]; exact heap_alloc_new _ _
  have v5 : Var (R5 w) (w.heap.size + 4) 4 (.bool false) := by rw [← s4]; exact heap_alloc_new _ _
  have f2 : Fr [] (R1 w) (R2 w) := Fr.alloc _ _
  have f3 : Fr [] (R2 w) (R3 w) := Fr.alloc _ _
  have f4 : Fr [] (R3 w) (R4 w) := Fr.alloc _ _
  have f5 : Fr [] (R4 w) (R5 w) := Fr.alloc _ _
  have f35 := f4.trans f5 (by simp)
  have f25 := f3.trans f35 (by simp)
  have f15 := f2.trans f25 (by simp)
  refine ⟨rfl, v5, v4.keep f5 (by simp), ?_, fun _ _ => rfl, v2.keep f25 (by simp), ⟨World.ownsRow_nil _ _ _ _, fun g hg => (by cases hg)⟩, v1.keep f15 (by simp), ⟨World.ownsRow_nil _ _ _ _, fun g hg => (by cases hg)⟩, fun j hj => (by simp [obL, Value.ownBlock] at hj), fun j hj => (by simp [obL, Value.ownBlock] at hj), fun j hj => (by simp [obL, Value.ownBlock] at hj), (by omega), (by omega), Nat.le_refl _, fun p hp => (by cases hp), fun p hp => (by cases hp)⟩
  exact v3.keep (f35.block _ v3.lt (by simp)) (fun a ha => ha.below (f35.below _ (by simp) (by omega)))
/-- tree.rising of a tree: its nodes, each behind those below it. -/
theorem rising_any (w : World) (t : Tr) {P : Nat → Prop} (hT : IsT w P t) (hnd : t.nodes.Nodup) (hc : t.cnt ≤ 1048576) :
    Calls Tryz.prog 54 #[ptrV t.p] w fun e w' => ∃ rv, e = .returned rv ∧ Below w.heap.size w w' ∧ Row w' (w.heap.size ≤ ·) rv ((postT t).map Tr.p) := by
  obtain ⟨F5, hs5⟩ := r5_fr w
  have hT5 : IsT (R5 w) (· < w.heap.size) t := hT.keep (fun j _ h => h) (fun j _ h => F5.block j h (by simp))
  have HW := walk_r (cl_rising w.heap.size (w.heap.size + 4) (w.heap.size + 3) (w.heap.size + 2) (w.heap.size + 1) w.heap.size) ⟨[], [], []⟩ _ (R5 w) t ⟨_, _, _, r5_ri w⟩ ⟨by simpa [nodesL] using hnd, by simp, rfl, by simp [cntL]; omega⟩ hT5 hc (by omega)
  have HF := Lib.hid F5
  have hrs := run_rs t ⟨[], [], []⟩
  have HRS := Lib.hid hrs
  clear F5 hT5 hT hnd hrs
  simp only [R5, R4, R3, R2, R1, ptrV] at HW HF hs5 ⊢
  have hmm := @run_makeMap Tryz.prog
  go_enter Tryz.func54, Tryz.ntmps54
  go_wp2_with fail
  refine HW.mono ?_
  rintro e w1 ⟨rfl, M', ⟨wv, lv, f, hI⟩, F1, hM'⟩
  have c1 := hI.e.c
  have c2 := hI.vl.c
  have HI := Lib.hid hI
  have HF1 := Lib.hid F1
  clear hI F1 hM'
  go_wp2_with fail
  go_ret
  refine ⟨lv, rfl, ((HF.out.below w.heap.size (by simp) (Nat.le_refl _))).trans (HF1.out.below w.heap.size (fun j hj => by simp at hj; omega) (by omega)), ?_⟩
  have := HI.out.rl
  rw [HRS.out.2] at this
  exact this
end Go.Proofs.YtliebhpddjbjeaaGreatDoor
