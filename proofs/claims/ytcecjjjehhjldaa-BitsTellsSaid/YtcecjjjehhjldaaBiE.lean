/- alive of layer 2's statements, walked. -/
import Derived.Test.YtcecjjjehhjldaaBiD
namespace Go.Proofs.Ytcecjjjehhjldaa
open Go.RowKit
set_option maxHeartbeats 400000
set_option maxRecDepth 100000
set_option linter.unusedVariables false

theorem bt {a b c : World} (h1 : Below a.heap.size a b) (h2 : Below b.heap.size b c) : Below a.heap.size a c := h1.trans (h2.mono h1.size)
theorem below_new (w : World) (o : Obj) : Below w.heap.size w (w.alloc o) := (Below.refl _ _).alloc (Nat.le_refl _) o
/-- A list that was built in a block of its own is read there. -/
theorem ints_built (w : World) (l : List Int) : IntsIn (w.alloc (.cells (l.map (Value.int .i64)).toArray 3)) (some ⟨w.heap.size, 0, none⟩) l := fun j hj => by
  refine ⟨_, rfl, ?_⟩
  rw [show (⟨w.heap.size, 0, none⟩ : Addr).add j = ⟨w.heap.size, j, none⟩ by simp [Addr.add]; omega, World.cell?_alloc_at _ _ _ _ rfl]
  simp [hj]
theorem Row_lit (w : World) : Calls Try.prog 20 #[.int .i64 2, .int .i64 4] w fun e w' => e = .returned (.int .u16 28) ∧ w = w' :=
  Row_any 2 4 (by omega) (by omega) (by omega) (by omega) w
theorem All_lit (w : World) : Calls Try.prog 17 #[.int .u16 28] w fun e w' => ∃ g cap, e = .returned (.slice (some ⟨g, 0, none⟩) 3 cap) ∧ w'.cell? ⟨g, 0, none⟩ = some (.int .i64 2) ∧ w'.cell? ⟨g, 2, none⟩ = some (.int .i64 4) ∧ g < w'.heap.size ∧ Below w.heap.size w w' := by
  refine (All_any 28 (by omega) (by omega) w).mono ?_
  rintro e w' ⟨v, rfl, hown, hb⟩
  rw [show elI 28 16 = [2, 3, 4] by decide] at hown
  obtain ⟨hl, ⟨_, h2⟩ | ⟨g, cap, cur, h1, h2, h3, h4⟩⟩ := id hown
  · simp at h2
  · subst h1
    refine ⟨g, cap, rfl, ?_, ?_, ?_, hb⟩
    · exact World.ownsRow.cells hown rfl 0 _ rfl
    · exact World.ownsRow.cells hown rfl 2 _ rfl
    · rw [Array.getElem?_eq_some_iff] at h3
      exact h3.1
theorem Len_lit (w : World) : Calls Try.prog 14 #[.int .u16 28] w fun e w' => e = .returned (.int .i64 3) ∧ w = w' :=
  Len_any 28 (by omega) (by omega) w
theorem Has_lit1 (w : World) : Calls Try.prog 8 #[.int .u16 28, .int .i64 2] w fun e w' => e = .returned (.bool true) ∧ w = w' :=
  Has_any 28 2 (by omega) (by omega) (by omega) (by omega) w
theorem Has_lit2 (w : World) : Calls Try.prog 8 #[.int .u16 28, .int .i64 16] w fun e w' => e = .returned (.bool false) ∧ w = w' :=
  Has_any 28 16 (by omega) (by omega) (by omega) (by omega) w
theorem Part_lit (w : World) : Calls Try.prog 18 #[.int .u16 4, .int .u16 28] w fun e w' => e = .returned (.bool true) ∧ w = w' :=
  Part_any 4 28 (by omega) (by omega) (by omega) (by omega) w
theorem With_lit (w : World) (ao : Option Addr) (cap : Nat) (h : IntsIn w ao [15, 16]) : Calls Try.prog 10 #[.int .u16 0, .slice ao 2 cap] w fun e w' => e = .returned (.int .u16 32768) ∧ w = w' :=
  With_any 0 (by omega) (by omega) ao cap [15, 16] (by simp) w h (fun j hj => by match j, hj with | 0, _ => decide | 1, _ => decide)
theorem Without_lit (w : World) (ao : Option Addr) (cap : Nat) (h : IntsIn w ao [3]) : Calls Try.prog 12 #[.int .u16 28, .slice ao 1 cap] w fun e w' => e = .returned (.int .u16 20) ∧ w = w' :=
  Without_any 28 (by omega) (by omega) ao cap [3] (by simp) w h (fun j hj => by match j, hj with | 0, _ => decide)

theorem alive_any (w : World) : Calls Try.prog 7 #[] w fun e w' => e = .returned (.bool true) ∧ Below w.heap.size w w' := by
  go_enter Try.func7, Try.ntmps7
  go_wp2_with fail
  refine (All_lit _).mono ?_
  rintro e w1 ⟨g, cap, rfl, hc0, hc2, ha, hb1⟩
  go_wp2_with fail
  refine (Row_lit _).mono ?_
  rintro e w2 ⟨rfl, rfl⟩
  go_wp2_with fail
  refine (With_lit _ _ _ ?_).mono ?_
  · exact ints_built w1 [15, 16]
  rintro e w3 ⟨rfl, rfl⟩
  have hb2 : Below w.heap.size w (w1.alloc (.cells #[.int .i64 15, .int .i64 16] 3)) := bt hb1 (below_new _ _)
  generalize w1.alloc (.cells #[.int .i64 15, .int .i64 16] 3) = w2 at *
  clear hc0 hc2 ha hb1
  go_wp2_with fail
  refine (Without_lit _ _ _ ?_).mono ?_
  · exact ints_built w2 [3]
  rintro e w3 ⟨rfl, rfl⟩
  have hb3 : Below w.heap.size w (w2.alloc (.cells #[.int .i64 3] 3)) := bt hb2 (below_new _ _)
  generalize w2.alloc (.cells #[.int .i64 3] 3) = w3 at *
  clear hb2
  go_wp2_with fail
  refine (Len_lit _).mono ?_
  rintro e w4 ⟨rfl, rfl⟩
  go_wp2_with fail
  refine (Has_lit1 _).mono ?_
  rintro e w4 ⟨rfl, rfl⟩
  go_wp2_with fail
  refine (Has_lit2 _).mono ?_
  rintro e w4 ⟨rfl, rfl⟩
  go_wp2_with fail
  refine (Part_lit _).mono ?_
  rintro e w4 ⟨rfl, rfl⟩
  go_wp2_with fail
  go_ret
  exact ⟨rfl, hb3⟩
end Go.Proofs.Ytcecjjjehhjldaa
