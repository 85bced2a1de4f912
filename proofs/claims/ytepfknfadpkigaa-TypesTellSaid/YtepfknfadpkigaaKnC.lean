/- Package konst: which values have numbers; which operators there are; what is answered. -/
import Derived.Test.YtepfknfadpkigaaKnB
namespace Go.Proofs.Ytepfknfadpkigaa
open Go.RowKit
set_option maxHeartbeats 1000000
set_option maxRecDepth 100000
set_option linter.unusedVariables false
set_option linter.unusedSimpArgs false

theorem let_any (x : TV) (w : World) : Calls Try.prog 65 #[x.val] w fun e w' => e = .returned (.bool x.let) ∧ Bl w w' := by
  obtain ⟨s, t, x, n⟩ := x
  unfold TV.val
  cases h2 : (s == 2) <;> cases h5 : (s == 5) <;> cases h1 : ((x.size : Int) == 1)
  all_goals
    go_enter Try.func65, Try.ntmps65
    go_wp2
    go_ret
    refine ⟨by simp [TV.let, h2, h5, h1], ?_⟩
    repeat (first | exact Below.refl _ _ | assumption | refine Below.alloc ?_ (by simp <;> omega) _ | refine Below.setCell ?_ (by simp <;> omega) _)
theorem num_any (x : TV) (w : World) : Calls Try.prog 58 #[x.val] w fun e w' => e = .returned (.bool x.num) ∧ Bl w w' := by
  have HL := let_any x
  obtain ⟨l, hl⟩ : ∃ l, x.let = l := ⟨_, rfl⟩
  rw [hl] at HL
  have HL2 := Lib.hid hl
  clear hl
  obtain ⟨s, t, x, n⟩ := x
  unfold TV.val at *
  cases h1 : (s == 1) <;> cases h3 : (s == 3) <;> cases h6 : (s == 6)
  all_goals
    go_enter Try.func58, Try.ntmps58
    go_wp2_with fail
    try
      refine (HL _).mono ?_
      rintro e w2 ⟨rfl, hb⟩
      go_wp2_with fail
    go_ret
    refine ⟨by simp [TV.num, HL2.out, h1, h3, h6], ?_⟩
    first
      | (refine Bl.on ?_ hb
         repeat (first | exact Below.refl _ _ | assumption | refine Below.alloc ?_ (by simp <;> omega) _ | refine Below.setCell ?_ (by simp <;> omega) _))
      | (repeat (first | exact Below.refl _ _ | assumption | refine Below.alloc ?_ (by simp <;> omega) _ | refine Below.setCell ?_ (by simp <;> omega) _))
end Go.Proofs.Ytepfknfadpkigaa
