/- Where no tree stands: walk, rising, Text of nil. -/
import Derived.Test.YtbfclibjnanlgaaGreatDoorTrJ
namespace Go.Proofs.YtbfclibjnanlgaaGreatDoor
open Go.RowKit
set_option maxHeartbeats 2000000
set_option maxRecDepth 100000
set_option linter.unusedVariables false

theorem rising1_nil (base be bs bm bw bl : Nat) (s : Rs) (M : List Nat) (w : World) (wv lv : Value) (f : Option Nat → Value) (h : RI base be bs bm bw bl s M w wv lv f) (hf : f none = .int .i64 0) :
    Calls Tryz.prog 39 #[.pointer none, .pointer (some ⟨be, 0, none⟩), .pointer (some ⟨bs, 0, none⟩), .pointer (some ⟨bw, 0, none⟩)] w fun e w' => e = .returned (.bool false) ∧ Var w' be 4 (.bool false) ∧ Fr [be] w w' := by
  have L0 := h.p.lookup (keyP base) Tryz.underlying74 (zeroI w) none (fun q hq => by cases hq)
  rw [hf] at L0
  have e1 := h.e.set (.bool false)
  have F1 := Fr.set w be 0 (.bool false)
  have c0 := h.e.c
  have f0 := h.e.f
  have c1 := h.st.c
  have c2 := e1.c
  simp only [encP] at L0
  have HX := Lib.hid (And.intro e1 F1)
  clear h hf e1 F1
  go_enter Tryz.func39, Tryz.ntmps39
  go_wp2_with fail
  go_ret
  exact ⟨rfl, HX.out.1, HX.out.2⟩
theorem visit_nil (w : World) (be bw : Nat) (x0 x1 x2 : Value) {Z : World → Prop} (hbe : Var w be 47 (.func (.func 39) #[] #[x0, x1, x2]))
    (HR : Calls Tryz.prog 39 #[.pointer none, x0, x1, x2] w fun e w' => e = .returned (.bool false) ∧ Z w') :
    Calls Tryz.prog 41 #[.pointer none, .pointer (some ⟨be, 0, none⟩), .pointer (some ⟨bw, 0, none⟩)] w fun e w' => e = .returned (.tuple #[]) ∧ Z w' := by
  have ce := hbe.c
  clear hbe
  go_enter Tryz.func41, Tryz.ntmps41
  go_wp2_with fail
  refine HR.mono ?_
  rintro e w1 ⟨rfl, hZ⟩
  have HZ := Lib.hid hZ
  clear HR hZ
  go_wp2_with fail
  go_end0
  exact ⟨rfl, HZ.out⟩
theorem walk_nil (w : World) (x0 x1 x2 x3 : Value) {Z : World → Prop}
    (HR : ∀ w1, Fr [] w w1 → Calls Tryz.prog 39 #[.pointer none, x0, x1, x2] w1 fun e w' => e = .returned (.bool false) ∧ Z w' ∧ ∃ N, (∀ j ∈ N, j < w.heap.size) ∧ Fr N w1 w') :
    Calls Tryz.prog 19 #[.pointer none, .func (.func 39) #[] #[x0, x1, x2], .func (.func 40) #[] #[x2, x1, x3]] w fun e w' => e = .returned (.tuple #[]) ∧ Z w' := by
  have D0 : Fr [] w (w.alloc (.cells #[.func (.func 39) #[] #[x0, x1, x2]] 47)) := Fr.alloc _ _
  have D1 := Fr.alloc (w.alloc (.cells #[.func (.func 39) #[] #[x0, x1, x2]] 47)) (.cells #[.slice none 0 0] 75)
  have D2 := D0.trans D1 (fun j hj => .inl hj)
  have hbe : Var (w.alloc (.cells #[.func (.func 39) #[] #[x0, x1, x2]] 47)) w.heap.size 47 (.func (.func 39) #[] #[x0, x1, x2]) := heap_alloc_new _ _
  have hbw : Var ((w.alloc (.cells #[.func (.func 39) #[] #[x0, x1, x2]] 47)).alloc (.cells #[.slice none 0 0] 75)) (w.heap.size + 1) 75 (.slice none 0 0) := by
    have := heap_alloc_new (w.alloc (.cells #[.func (.func 39) #[] #[x0, x1, x2]] 47)) (.cells #[.slice none 0 0] 75)
    simpa [Var] using this
  have HV := visit_nil _ w.heap.size (w.heap.size + 1) x0 x1 x2 (hbe.keep D1 (by simp)) (HR _ D2)
  have HBW := Lib.hid hbw
  clear D0 D1 D2 hbe hbw HR
  go_enter Tryz.func19, Tryz.ntmps19
  go_wp2_with fail
  refine HV.mono ?_
  rintro e w1 ⟨rfl, hZ, N, hN, FN⟩
  have cw := (HBW.out.keep FN (fun h => by have := hN _ h; omega)).c
  have HZ := Lib.hid hZ
  clear HV hZ hN FN HBW
  go_wp2_with fail
  refine wp_loop_rounds 1 ?_
  rw [rounds_succ]
  go_wp2_with fail
  go_end0
  exact ⟨rfl, HZ.out⟩
theorem rising_nil (w : World) :
    Calls Tryz.prog 18 #[.pointer none] w fun e w' => e = .returned (.slice none 0 0) ∧ Below w.heap.size w w' := by
  obtain ⟨F5, hs5⟩ := r5_fr w
  have hri := r5_ri w
  have HW := walk_nil (R5 w) (.pointer (some ⟨w.heap.size + 4, 0, none⟩)) (.pointer (some ⟨w.heap.size + 3, 0, none⟩)) (.pointer (some ⟨w.heap.size + 1, 0, none⟩)) (.pointer (some ⟨w.heap.size, 0, none⟩))
    (Z := fun w' => Var w' (w.heap.size + 4) 4 (.bool false) ∧ Fr [w.heap.size + 4] (R5 w) w') (fun w1 F1 => by
      refine (rising1_nil _ _ _ _ _ _ _ _ w1 _ _ _ (ri_keep hri F1 (fun j hj => by cases hj)) rfl).mono ?_
      rintro e w2 ⟨rfl, h1, h2⟩
      exact ⟨rfl, ⟨h1, (F1.mono (by simp)).trans h2 (fun j hj => .inl hj)⟩, _, fun j hj => by simp at hj; omega, h2⟩)
  have HF := Lib.hid F5
  have HRI := Lib.hid hri.vl
  clear F5 hri
  simp only [R5, R4, R3, R2, R1] at HW HF HRI hs5 ⊢
  have hmm := @run_makeMap Tryz.prog
  go_enter Tryz.func18, Tryz.ntmps18
  go_wp2_with fail
  refine HW.mono ?_
  rintro e w1 ⟨rfl, hv, F1⟩
  have c1 := hv.c
  have c2 := (HRI.out.keep F1 (by simp)).c
  have HF1 := Lib.hid F1
  clear HW hv F1
  go_wp2_with fail
  go_ret
  exact ⟨rfl, ((HF.out.below w.heap.size (by simp) (Nat.le_refl _))).trans (HF1.out.below w.heap.size (fun j hj => by simp at hj; omega) (by omega))⟩
theorem tText_nil (w : World) :
    Calls Tryz.prog 14 #[.pointer none] w fun e w' => e = .returned (.string ⟨#[]⟩) ∧ Below w.heap.size w w' := by
  have HR := rising_nil w
  go_enter Tryz.func14, Tryz.ntmps14
  go_wp2_with fail
  refine HR.mono ?_
  rintro e w1 ⟨rfl, B1⟩
  have HB := Lib.hid B1
  clear HR B1
  go_wp2_with fail
  go_ret
  exact ⟨rfl, HB.out⟩
end Go.Proofs.YtbfclibjnanlgaaGreatDoor
