/- Law 6: rows that are cut. -/
import Derived.Test.YtnaihncmichfaaaEyB
namespace Go.Proofs.Ytnaihncmichfaaa
open Go.RowKit
set_option maxHeartbeats 4000000
set_option maxRecDepth 100000
set_option linter.unusedVariables false
set_option linter.unusedSimpArgs false

theorem fin_of {k : Nat} {ts : List TK} : (∃ d n, doM k ts 0 = .ok d n ∧ n ≤ ts.length) ∨ ∃ n, doM k ts 0 = .bad n ∧ n ≤ ts.length := by
  have hb := bd_do k ts 0 (Nat.zero_le _)
  cases hr : doM k ts 0 with
  | ok d n => exact .inl ⟨d, n, rfl, (hb.1 _ _ hr).2⟩
  | bad n => exact .inr ⟨n, rfl, (hb.2 _ hr).2⟩
  | out => exact absurd hr (fin_do k ts 0 (Nat.zero_le _))
/-- What one of the four says: a place, and whether it is an error. -/
theorem Says.flat {B : Nat} {W0 : World} {res : Re} {e : Ending} {w' : World} (h : Says B W0 res e w') :
    ∃ pv, ∃ ev : Int, e = .returned (.tuple #[pv, .int .i64 res.pl, .int .i64 ev]) ∧ Below B W0 w' ∧ ((∃ d j, res = .ok d j ∧ ev = 0) ∨ ∃ j, res = .bad j ∧ ev = 60) := by
  obtain ⟨hb, ⟨d, j, u, h1, rfl, _⟩ | ⟨j, h1, rfl⟩⟩ := h
  · subst h1
    exact ⟨_, 0, rfl, hb, .inl ⟨d, j, rfl, rfl⟩⟩
  · subst h1
    exact ⟨_, 60, rfl, hb, .inr ⟨j, rfl, rfl⟩⟩
theorem cuts_big (s : ByteArray) (a1 a2 : Int) (h : 2048 < s.size) (w : World) :
    Calls Try.prog 5 #[.string s, .int .u8 a1, .int .u16 a2] w fun e w' => e = .returned (.bool true) ∧ Below w.heap.size w w' := by
  have H1 := rheavy_any s w
  rw [decide_eq_true (by omega)] at H1
  have HW := Lib.hid (rworks_any w)
  go_enter Try.func5, Try.ntmps5
  go_wp2_with fail
  refine H1.mono ?_
  rintro e w1 ⟨rfl, rfl⟩
  go_wp2_with fail
  refine HW.out.mono ?_
  rintro e w2 ⟨rfl, hb⟩
  go_wp2_with fail
  go_ret
  exact ⟨rfl, hb⟩
end Go.Proofs.Ytnaihncmichfaaa
