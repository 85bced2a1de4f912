/- KonstDoes: all together. -/
import Derived.Test.YtpnohljhpoildaaKnDB
namespace Go.Proofs.Ytpnohljhpoildaa
open Go.RowKit
set_option maxHeartbeats 4000000
set_option maxRecDepth 100000
set_option linter.unusedVariables false
set_option linter.unusedSimpArgs false

theorem doesl_heavy (r s : RV) (hv : hvB r s = true) (op : Int) (W : World) : Calls Try.prog 3 #[r.val, s.val, .int .u8 op] W fun e w' => e = .returned (.bool true) ∧ Below W.heap.size W w' := by
  have HV := heavy_any r s
  rw [hv] at HV
  clear hv
  obtain ⟨rk, rn, rx, rt⟩ := r
  obtain ⟨sk, sn, sx, st⟩ := s
  unfold RV.val at *
  have kW : Bl W ((W.alloc (.cells #[.int .u8 rk, .int .i64 rn, .string rx, .int .i64 rt] 23)).alloc (.cells #[.int .u8 sk, .int .i64 sn, .string sx, .int .i64 st] 23)) := ((Below.refl _ _).alloc (Nat.le_refl _) _).alloc (by simp) _
  go_enter Try.func3, Try.ntmps3
  go_wp2_with fail
  refine (HV _).mono ?_
  rintro e w0 ⟨rfl, k0⟩
  go_wp2_with fail
  refine (works_any _).mono ?_
  rintro e w1 ⟨rfl, k1⟩
  have KW := Lib.hid ((kW.on k0).on k1)
  clear kW k0 k1
  go_wp2_with fail
  go_ret
  exact ⟨rfl, KW.out⟩
theorem konst_does_end (r s : RV) (hr : r.wf) (hs : s.wf) (hrx : r.x.size ≤ 9223372036854775807) (hsx : s.x.size ≤ 9223372036854775807) (op : Int) (p0 : 0 ≤ op) (p1 : op ≤ 255) (W : World) : Calls Try.prog 3 #[r.val, s.val, .int .u8 op] W fun e w' => e = .returned (.bool true) ∧ Below W.heap.size W w' := by
  cases hv : hvB r s
  · exact doesl_end r s hr hs hrx hsx hv op p0 p1 W
  · exact doesl_heavy r s hv op W
end Go.Proofs.Ytpnohljhpoildaa
