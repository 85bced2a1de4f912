/- KonstBack. -/
import Derived.Test.YtpnohljhpoildaaKnN
namespace Go.Proofs.Ytpnohljhpoildaa
open Go.RowKit
set_option maxHeartbeats 1000000
set_option maxRecDepth 100000
set_option linter.unusedVariables false
set_option linter.unusedSimpArgs false

theorem wf_i (n : Int) (h0 : -9223372036854775808 ≤ n) (h1 : n ≤ 9223372036854775807) : PV.wf (.whole n) := ⟨h0, h1⟩
theorem w_in {n : Int} (h : inW n = true) : tellP (.whole n) = ⟨1, 0, nilS, n⟩ := if_pos h
theorem w_out {n : Int} (h : inW n = false) : tellP (.whole n) = ⟨0, 0, nilS, 0⟩ := if_neg (by rw [h]; simp)
theorem d_add {x y : Int} (hx : inW x = true) (hy : inW y = true) : doesP [43] (.whole x) (.whole y) = fitP (x + y) := by unfold doesP; rw [w_in hx, w_in hy]; rfl
theorem d_sub {x y : Int} (hx : inW x = true) (hy : inW y = true) : doesP [45] (.whole x) (.whole y) = fitP (x - y) := by unfold doesP; rw [w_in hx, w_in hy]; rfl
theorem d_div {x y : Int} (hx : inW x = true) (hy : inW y = true) : doesP [68, 73, 86] (.whole x) (.whole y) = ovr (fun x y => x.tdiv y) x y := by unfold doesP; rw [w_in hx, w_in hy]; rfl
theorem d_mod {x y : Int} (hx : inW x = true) (hy : inW y = true) : doesP [77, 79, 68] (.whole x) (.whole y) = ovr (fun x y => x.tmod y) x y := by unfold doesP; rw [w_in hx, w_in hy]; rfl
theorem fit_in {n : Int} (h : inW n = true) : fitP n = (.whole n, 0) := if_pos h
theorem fit_out {n : Int} (h : inW n = false) : fitP n = (.none, 101) := if_neg (by rw [h]; simp)
theorem d_none1 {x : Int} (y : Int) (hx : inW x = false) : doesP [43] (.whole x) (.whole y) = (.none, 100) := by
  unfold doesP
  rw [w_out hx]
  cases hy : inW y
  · rw [w_out hy]; rfl
  · rw [w_in hy]; rfl
theorem d_none2 {x y : Int} (hx : inW x = true) (hy : inW y = false) : doesP [43] (.whole x) (.whole y) = (.none, 100) := by
  unfold doesP
  rw [w_in hx, w_out hy]; rfl
theorem inW_of {n : Int} (h0 : -32768 ≤ n) (h1 : n ≤ 65535) : inW n = true := by unfold inW; simp [h0, h1]
theorem ovr_ok (f : Int → Int → Int) {x y : Int} (h : ¬ y = 0) : ovr f x y = fitP (f x y) := by unfold ovr; rw [if_neg h]
theorem mod_in {x y : Int} (hx : inW x = true) : inW (x.tmod y) = true := by
  have h := inW_bd hx
  have h2 : (x.tmod y).natAbs ≤ x.natAbs := by rw [Int.natAbs_tmod]; exact Nat.mod_le _ _
  by_cases h0 : 0 ≤ x
  · have := Int.tmod_nonneg y h0
    exact inW_of (by omega) (by omega)
  · have : x.tmod y ≤ 0 := by
      have h3 := Int.tmod_nonneg y (show 0 ≤ -x by omega)
      rw [Int.neg_tmod] at h3
      omega
    exact inW_of (by omega) (by omega)
theorem back_4 (a b s t : Int) (x y : Int) (hax : a.tmod 65536 = x) (hby : b.tmod 65536 = y) (bx : -65536 ≤ x ∧ x ≤ 65536) (by_ : -65536 ≤ y ∧ y ≤ 65536) (hs : w16 s) (ht : w16 t) (hx : inW x = false) (W : World) : Calls Try.prog 5 #[.int .i32 a, .int .i32 b, .int .u16 s, .int .u16 t] W fun e w' => e = .returned (.bool true) ∧ Below W.heap.size W w' := by
  obtain ⟨bx0, bx1⟩ := bx
  obtain ⟨by0, by1⟩ := by_
  obtain ⟨o, ho⟩ : ∃ z, orN s t = z := ⟨_, rfl⟩
  have wo : w16 o := by rw [← ho]; exact or_w hs ht
  obtain ⟨m, hm⟩ : ∃ z, andN s t = z := ⟨_, rfl⟩
  have wm : w16 m := by rw [← hm]; exact and_w hs ht
  obtain ⟨g, hg⟩ : ∃ z, xorN s t = z := ⟨_, rfl⟩
  have wg : w16 g := by rw [← hg]; exact xor_w hs ht
  have D0 : ∀ w, Calls Try.prog 11 #[.string ⟨#[43]⟩, .iface 47 (.int .u16 s), .iface 47 (.int .u16 t)] w fun e w' => e = .returned (.tuple #[.iface 47 (.int .u16 o), .int .i64 0]) ∧ Bl w w' := fun w => by
    refine (Does_any [43] (by decide) (.bits s) (.bits t) hs ht w).mono ?_
    rintro e w' ⟨rfl, k⟩
    exact ⟨by rw [show doesP [43] (.bits s) (.bits t) = ((.bits o), 0) from by rw [← ho]; rfl]; rfl, k⟩
  have D1 : ∀ w, Calls Try.prog 11 #[.string ⟨#[42]⟩, .iface 47 (.int .u16 s), .iface 47 (.int .u16 t)] w fun e w' => e = .returned (.tuple #[.iface 47 (.int .u16 m), .int .i64 0]) ∧ Bl w w' := fun w => by
    refine (Does_any [42] (by decide) (.bits s) (.bits t) hs ht w).mono ?_
    rintro e w' ⟨rfl, k⟩
    exact ⟨by rw [show doesP [42] (.bits s) (.bits t) = ((.bits m), 0) from by rw [← hm]; rfl]; rfl, k⟩
  have D2 : ∀ w, Calls Try.prog 11 #[.string ⟨#[47]⟩, .iface 47 (.int .u16 s), .iface 47 (.int .u16 t)] w fun e w' => e = .returned (.tuple #[.iface 47 (.int .u16 g), .int .i64 0]) ∧ Bl w w' := fun w => by
    refine (Does_any [47] (by decide) (.bits s) (.bits t) hs ht w).mono ?_
    rintro e w' ⟨rfl, k⟩
    exact ⟨by rw [show doesP [47] (.bits s) (.bits t) = ((.bits g), 0) from by rw [← hg]; rfl]; rfl, k⟩
  have D3 : ∀ w, Calls Try.prog 11 #[.string ⟨#[45]⟩, .iface 47 (.int .u16 o), .iface 47 (.int .u16 m)] w fun e w' => e = .returned (.tuple #[.iface 47 (.int .u16 g), .int .i64 0]) ∧ Bl w w' := fun w => by
    refine (Does_any [45] (by decide) (.bits o) (.bits m) wo wm w).mono ?_
    rintro e w' ⟨rfl, k⟩
    exact ⟨by rw [show doesP [45] (.bits o) (.bits m) = ((.bits g), 0) from by rw [show doesP [45] (.bits o) (.bits m) = (.bits (offN o m), 0) from rfl, ← ho, ← hm, f_xor hs ht, hg]]; rfl, k⟩
  have D4 : ∀ w, Calls Try.prog 11 #[.string ⟨#[60, 61]⟩, .iface 47 (.int .u16 m), .iface 47 (.int .u16 s)] w fun e w' => e = .returned (.tuple #[.iface 48 (.bool true), .int .i64 0]) ∧ Bl w w' := fun w => by
    refine (Does_any [60, 61] (by decide) (.bits m) (.bits s) wm hs w).mono ?_
    rintro e w' ⟨rfl, k⟩
    exact ⟨by rw [show doesP [60, 61] (.bits m) (.bits s) = ((.truth true), 0) from by rw [show doesP [60, 61] (.bits m) (.bits s) = tru (offN m s == 0) from rfl, ← hm, f_partA t hs]; rfl]; rfl, k⟩
  have S0 : ∀ w, Calls Try.prog 16 #[.iface 47 (.int .u16 g), .iface 47 (.int .u16 g)] w fun e w' => e = .returned (.bool true) ∧ Bl w w' := fun w => by
    refine (same2_any (.bits g) (.bits g) wg wg w).mono ?_
    rintro e w' ⟨rfl, k⟩
    exact ⟨by rw [show (tellP (.bits g)).eq (tellP (.bits g)) = true from TV.eq_self _], k⟩
  have S1 : ∀ w, Calls Try.prog 16 #[.iface 48 (.bool true), .iface 48 (.bool true)] w fun e w' => e = .returned (.bool true) ∧ Bl w w' := fun w => by
    refine (same2_any (.truth true) (.truth true) trivial trivial w).mono ?_
    rintro e w' ⟨rfl, k⟩
    exact ⟨by rw [show (tellP (.truth true)).eq (tellP (.truth true)) = true from TV.eq_self _], k⟩
  clear ho hm hg wo wm wg hs ht
  have hwx : wrap64 x = x := IntWalk.wrap64_in x (by omega)
  have hwy : wrap64 y = y := IntWalk.wrap64_in y (by omega)
  have P0 : ∀ w, Calls Try.prog 11 #[.string ⟨#[43]⟩, .iface 42 (.int .i64 x), .iface 42 (.int .i64 y)] w fun e w' => e = .returned (.tuple #[.nilIface, .int .i64 100]) ∧ Bl w w' := fun w => by
    refine (Does_any [43] (by decide) (.whole x) (.whole y) (wf_i _ (by omega) (by omega)) (wf_i _ (by omega) (by omega)) w).mono ?_
    rintro e w' ⟨rfl, k⟩
    exact ⟨by rw [show doesP [43] (.whole x) (.whole y) = (.none, 100) from d_none1 y hx]; rfl, k⟩
  have I0 : ∀ w, Calls Try.prog 17 #[.iface 42 (.int .i64 x)] w fun e w' => e = .returned (.bool false) ∧ Bl w w' := fun w => by
    refine (is_any (.whole x) (wf_i _ (by omega) (by omega)) w).mono ?_
    rintro e w' ⟨rfl, k⟩
    exact ⟨by rw [show tellP (.whole x) = ⟨0, 0, nilS, 0⟩ from if_neg (by rw [hx]; simp)]; rfl, k⟩
  clear hx bx0 bx1 by0 by1
  go_enter Try.func5, Try.ntmps5
  go_wp2_with fail
  refine (P0 _).mono ?_
  rintro e w0 ⟨rfl, k0⟩
  go_wp2_with fail
  refine (I0 _).mono ?_
  rintro e w1 ⟨rfl, k1⟩
  have k1 := Bl.on k0 k1
  clear k0
  go_wp2_with fail
  refine (D0 _).mono ?_
  rintro e w2 ⟨rfl, k2⟩
  have k2 := Bl.on k1 k2
  clear k1
  go_wp2_with fail
  refine (D1 _).mono ?_
  rintro e w3 ⟨rfl, k3⟩
  have k3 := Bl.on k2 k3
  clear k2
  go_wp2_with fail
  refine (D2 _).mono ?_
  rintro e w4 ⟨rfl, k4⟩
  have k4 := Bl.on k3 k4
  clear k3
  go_wp2_with fail
  refine (D3 _).mono ?_
  rintro e w5 ⟨rfl, k5⟩
  have k5 := Bl.on k4 k5
  clear k4
  go_wp2_with fail
  refine (D4 _).mono ?_
  rintro e w6 ⟨rfl, k6⟩
  have k6 := Bl.on k5 k6
  clear k5
  go_wp2_with fail
  refine (S0 _).mono ?_
  rintro e w7 ⟨rfl, k7⟩
  have k7 := Bl.on k6 k7
  clear k6
  go_wp2_with fail
  refine (S1 _).mono ?_
  rintro e w8 ⟨rfl, k8⟩
  have k8 := Bl.on k7 k8
  clear k7
  go_wp2_with fail
  refine (works_any _).mono ?_
  rintro e w9 ⟨rfl, k9⟩
  have k9 := Bl.on k8 k9
  clear k8
  have KK := Lib.hid k9
  clear k9
  go_wp2_with fail
  go_ret
  exact ⟨rfl, KK.out⟩
theorem back_3 (a b s t : Int) (x y : Int) (hax : a.tmod 65536 = x) (hby : b.tmod 65536 = y) (bx : -65536 ≤ x ∧ x ≤ 65536) (by_ : -65536 ≤ y ∧ y ≤ 65536) (hs : w16 s) (ht : w16 t) (hx : inW x = true) (hy : inW y = false) (W : World) : Calls Try.prog 5 #[.int .i32 a, .int .i32 b, .int .u16 s, .int .u16 t] W fun e w' => e = .returned (.bool true) ∧ Below W.heap.size W w' := by
  obtain ⟨bx0, bx1⟩ := bx
  obtain ⟨by0, by1⟩ := by_
  obtain ⟨o, ho⟩ : ∃ z, orN s t = z := ⟨_, rfl⟩
  have wo : w16 o := by rw [← ho]; exact or_w hs ht
  obtain ⟨m, hm⟩ : ∃ z, andN s t = z := ⟨_, rfl⟩
  have wm : w16 m := by rw [← hm]; exact and_w hs ht
  obtain ⟨g, hg⟩ : ∃ z, xorN s t = z := ⟨_, rfl⟩
  have wg : w16 g := by rw [← hg]; exact xor_w hs ht
  have D0 : ∀ w, Calls Try.prog 11 #[.string ⟨#[43]⟩, .iface 47 (.int .u16 s), .iface 47 (.int .u16 t)] w fun e w' => e = .returned (.tuple #[.iface 47 (.int .u16 o), .int .i64 0]) ∧ Bl w w' := fun w => by
    refine (Does_any [43] (by decide) (.bits s) (.bits t) hs ht w).mono ?_
    rintro e w' ⟨rfl, k⟩
    exact ⟨by rw [show doesP [43] (.bits s) (.bits t) = ((.bits o), 0) from by rw [← ho]; rfl]; rfl, k⟩
  have D1 : ∀ w, Calls Try.prog 11 #[.string ⟨#[42]⟩, .iface 47 (.int .u16 s), .iface 47 (.int .u16 t)] w fun e w' => e = .returned (.tuple #[.iface 47 (.int .u16 m), .int .i64 0]) ∧ Bl w w' := fun w => by
    refine (Does_any [42] (by decide) (.bits s) (.bits t) hs ht w).mono ?_
    rintro e w' ⟨rfl, k⟩
    exact ⟨by rw [show doesP [42] (.bits s) (.bits t) = ((.bits m), 0) from by rw [← hm]; rfl]; rfl, k⟩
  have D2 : ∀ w, Calls Try.prog 11 #[.string ⟨#[47]⟩, .iface 47 (.int .u16 s), .iface 47 (.int .u16 t)] w fun e w' => e = .returned (.tuple #[.iface 47 (.int .u16 g), .int .i64 0]) ∧ Bl w w' := fun w => by
    refine (Does_any [47] (by decide) (.bits s) (.bits t) hs ht w).mono ?_
    rintro e w' ⟨rfl, k⟩
    exact ⟨by rw [show doesP [47] (.bits s) (.bits t) = ((.bits g), 0) from by rw [← hg]; rfl]; rfl, k⟩
  have D3 : ∀ w, Calls Try.prog 11 #[.string ⟨#[45]⟩, .iface 47 (.int .u16 o), .iface 47 (.int .u16 m)] w fun e w' => e = .returned (.tuple #[.iface 47 (.int .u16 g), .int .i64 0]) ∧ Bl w w' := fun w => by
    refine (Does_any [45] (by decide) (.bits o) (.bits m) wo wm w).mono ?_
    rintro e w' ⟨rfl, k⟩
    exact ⟨by rw [show doesP [45] (.bits o) (.bits m) = ((.bits g), 0) from by rw [show doesP [45] (.bits o) (.bits m) = (.bits (offN o m), 0) from rfl, ← ho, ← hm, f_xor hs ht, hg]]; rfl, k⟩
  have D4 : ∀ w, Calls Try.prog 11 #[.string ⟨#[60, 61]⟩, .iface 47 (.int .u16 m), .iface 47 (.int .u16 s)] w fun e w' => e = .returned (.tuple #[.iface 48 (.bool true), .int .i64 0]) ∧ Bl w w' := fun w => by
    refine (Does_any [60, 61] (by decide) (.bits m) (.bits s) wm hs w).mono ?_
    rintro e w' ⟨rfl, k⟩
    exact ⟨by rw [show doesP [60, 61] (.bits m) (.bits s) = ((.truth true), 0) from by rw [show doesP [60, 61] (.bits m) (.bits s) = tru (offN m s == 0) from rfl, ← hm, f_partA t hs]; rfl]; rfl, k⟩
  have S0 : ∀ w, Calls Try.prog 16 #[.iface 47 (.int .u16 g), .iface 47 (.int .u16 g)] w fun e w' => e = .returned (.bool true) ∧ Bl w w' := fun w => by
    refine (same2_any (.bits g) (.bits g) wg wg w).mono ?_
    rintro e w' ⟨rfl, k⟩
    exact ⟨by rw [show (tellP (.bits g)).eq (tellP (.bits g)) = true from TV.eq_self _], k⟩
  have S1 : ∀ w, Calls Try.prog 16 #[.iface 48 (.bool true), .iface 48 (.bool true)] w fun e w' => e = .returned (.bool true) ∧ Bl w w' := fun w => by
    refine (same2_any (.truth true) (.truth true) trivial trivial w).mono ?_
    rintro e w' ⟨rfl, k⟩
    exact ⟨by rw [show (tellP (.truth true)).eq (tellP (.truth true)) = true from TV.eq_self _], k⟩
  clear ho hm hg wo wm wg hs ht
  have hwx : wrap64 x = x := IntWalk.wrap64_in x (by omega)
  have hwy : wrap64 y = y := IntWalk.wrap64_in y (by omega)
  have P0 : ∀ w, Calls Try.prog 11 #[.string ⟨#[43]⟩, .iface 42 (.int .i64 x), .iface 42 (.int .i64 y)] w fun e w' => e = .returned (.tuple #[.nilIface, .int .i64 100]) ∧ Bl w w' := fun w => by
    refine (Does_any [43] (by decide) (.whole x) (.whole y) (wf_i _ (by omega) (by omega)) (wf_i _ (by omega) (by omega)) w).mono ?_
    rintro e w' ⟨rfl, k⟩
    exact ⟨by rw [show doesP [43] (.whole x) (.whole y) = (.none, 100) from d_none2 hx hy]; rfl, k⟩
  have I0 : ∀ w, Calls Try.prog 17 #[.iface 42 (.int .i64 x)] w fun e w' => e = .returned (.bool true) ∧ Bl w w' := fun w => by
    refine (is_any (.whole x) (wf_i _ (by omega) (by omega)) w).mono ?_
    rintro e w' ⟨rfl, k⟩
    exact ⟨by rw [show tellP (.whole x) = ⟨1, 0, nilS, x⟩ from if_pos hx]; rfl, k⟩
  have I1 : ∀ w, Calls Try.prog 17 #[.iface 42 (.int .i64 y)] w fun e w' => e = .returned (.bool false) ∧ Bl w w' := fun w => by
    refine (is_any (.whole y) (wf_i _ (by omega) (by omega)) w).mono ?_
    rintro e w' ⟨rfl, k⟩
    exact ⟨by rw [show tellP (.whole y) = ⟨0, 0, nilS, 0⟩ from if_neg (by rw [hy]; simp)]; rfl, k⟩
  clear hx hy bx0 bx1 by0 by1
  go_enter Try.func5, Try.ntmps5
  go_wp2_with fail
  refine (P0 _).mono ?_
  rintro e w0 ⟨rfl, k0⟩
  go_wp2_with fail
  refine (I0 _).mono ?_
  rintro e w1 ⟨rfl, k1⟩
  have k1 := Bl.on k0 k1
  clear k0
  go_wp2_with fail
  refine (I1 _).mono ?_
  rintro e w2 ⟨rfl, k2⟩
  have k2 := Bl.on k1 k2
  clear k1
  go_wp2_with fail
  refine (D0 _).mono ?_
  rintro e w3 ⟨rfl, k3⟩
  have k3 := Bl.on k2 k3
  clear k2
  go_wp2_with fail
  refine (D1 _).mono ?_
  rintro e w4 ⟨rfl, k4⟩
  have k4 := Bl.on k3 k4
  clear k3
  go_wp2_with fail
  refine (D2 _).mono ?_
  rintro e w5 ⟨rfl, k5⟩
  have k5 := Bl.on k4 k5
  clear k4
  go_wp2_with fail
  refine (D3 _).mono ?_
  rintro e w6 ⟨rfl, k6⟩
  have k6 := Bl.on k5 k6
  clear k5
  go_wp2_with fail
  refine (D4 _).mono ?_
  rintro e w7 ⟨rfl, k7⟩
  have k7 := Bl.on k6 k7
  clear k6
  go_wp2_with fail
  refine (S0 _).mono ?_
  rintro e w8 ⟨rfl, k8⟩
  have k8 := Bl.on k7 k8
  clear k7
  go_wp2_with fail
  refine (S1 _).mono ?_
  rintro e w9 ⟨rfl, k9⟩
  have k9 := Bl.on k8 k9
  clear k8
  go_wp2_with fail
  refine (works_any _).mono ?_
  rintro e w10 ⟨rfl, k10⟩
  have k10 := Bl.on k9 k10
  clear k9
  have KK := Lib.hid k10
  clear k10
  go_wp2_with fail
  go_ret
  exact ⟨rfl, KK.out⟩
theorem back_2 (a b s t : Int) (x y : Int) (hax : a.tmod 65536 = x) (hby : b.tmod 65536 = y) (bx : -65536 ≤ x ∧ x ≤ 65536) (by_ : -65536 ≤ y ∧ y ≤ 65536) (hs : w16 s) (ht : w16 t) (hx : inW x = true) (hy : inW y = true) (hsum : inW (x + y) = true) (hy0 : y = 0) (W : World) : Calls Try.prog 5 #[.int .i32 a, .int .i32 b, .int .u16 s, .int .u16 t] W fun e w' => e = .returned (.bool true) ∧ Below W.heap.size W w' := by
  obtain ⟨bx0, bx1⟩ := bx
  obtain ⟨by0, by1⟩ := by_
  obtain ⟨o, ho⟩ : ∃ z, orN s t = z := ⟨_, rfl⟩
  have wo : w16 o := by rw [← ho]; exact or_w hs ht
  obtain ⟨m, hm⟩ : ∃ z, andN s t = z := ⟨_, rfl⟩
  have wm : w16 m := by rw [← hm]; exact and_w hs ht
  obtain ⟨g, hg⟩ : ∃ z, xorN s t = z := ⟨_, rfl⟩
  have wg : w16 g := by rw [← hg]; exact xor_w hs ht
  have D0 : ∀ w, Calls Try.prog 11 #[.string ⟨#[43]⟩, .iface 47 (.int .u16 s), .iface 47 (.int .u16 t)] w fun e w' => e = .returned (.tuple #[.iface 47 (.int .u16 o), .int .i64 0]) ∧ Bl w w' := fun w => by
    refine (Does_any [43] (by decide) (.bits s) (.bits t) hs ht w).mono ?_
    rintro e w' ⟨rfl, k⟩
    exact ⟨by rw [show doesP [43] (.bits s) (.bits t) = ((.bits o), 0) from by rw [← ho]; rfl]; rfl, k⟩
  have D1 : ∀ w, Calls Try.prog 11 #[.string ⟨#[42]⟩, .iface 47 (.int .u16 s), .iface 47 (.int .u16 t)] w fun e w' => e = .returned (.tuple #[.iface 47 (.int .u16 m), .int .i64 0]) ∧ Bl w w' := fun w => by
    refine (Does_any [42] (by decide) (.bits s) (.bits t) hs ht w).mono ?_
    rintro e w' ⟨rfl, k⟩
    exact ⟨by rw [show doesP [42] (.bits s) (.bits t) = ((.bits m), 0) from by rw [← hm]; rfl]; rfl, k⟩
  have D2 : ∀ w, Calls Try.prog 11 #[.string ⟨#[47]⟩, .iface 47 (.int .u16 s), .iface 47 (.int .u16 t)] w fun e w' => e = .returned (.tuple #[.iface 47 (.int .u16 g), .int .i64 0]) ∧ Bl w w' := fun w => by
    refine (Does_any [47] (by decide) (.bits s) (.bits t) hs ht w).mono ?_
    rintro e w' ⟨rfl, k⟩
    exact ⟨by rw [show doesP [47] (.bits s) (.bits t) = ((.bits g), 0) from by rw [← hg]; rfl]; rfl, k⟩
  have D3 : ∀ w, Calls Try.prog 11 #[.string ⟨#[45]⟩, .iface 47 (.int .u16 o), .iface 47 (.int .u16 m)] w fun e w' => e = .returned (.tuple #[.iface 47 (.int .u16 g), .int .i64 0]) ∧ Bl w w' := fun w => by
    refine (Does_any [45] (by decide) (.bits o) (.bits m) wo wm w).mono ?_
    rintro e w' ⟨rfl, k⟩
    exact ⟨by rw [show doesP [45] (.bits o) (.bits m) = ((.bits g), 0) from by rw [show doesP [45] (.bits o) (.bits m) = (.bits (offN o m), 0) from rfl, ← ho, ← hm, f_xor hs ht, hg]]; rfl, k⟩
  have D4 : ∀ w, Calls Try.prog 11 #[.string ⟨#[60, 61]⟩, .iface 47 (.int .u16 m), .iface 47 (.int .u16 s)] w fun e w' => e = .returned (.tuple #[.iface 48 (.bool true), .int .i64 0]) ∧ Bl w w' := fun w => by
    refine (Does_any [60, 61] (by decide) (.bits m) (.bits s) wm hs w).mono ?_
    rintro e w' ⟨rfl, k⟩
    exact ⟨by rw [show doesP [60, 61] (.bits m) (.bits s) = ((.truth true), 0) from by rw [show doesP [60, 61] (.bits m) (.bits s) = tru (offN m s == 0) from rfl, ← hm, f_partA t hs]; rfl]; rfl, k⟩
  have S0 : ∀ w, Calls Try.prog 16 #[.iface 47 (.int .u16 g), .iface 47 (.int .u16 g)] w fun e w' => e = .returned (.bool true) ∧ Bl w w' := fun w => by
    refine (same2_any (.bits g) (.bits g) wg wg w).mono ?_
    rintro e w' ⟨rfl, k⟩
    exact ⟨by rw [show (tellP (.bits g)).eq (tellP (.bits g)) = true from TV.eq_self _], k⟩
  have S1 : ∀ w, Calls Try.prog 16 #[.iface 48 (.bool true), .iface 48 (.bool true)] w fun e w' => e = .returned (.bool true) ∧ Bl w w' := fun w => by
    refine (same2_any (.truth true) (.truth true) trivial trivial w).mono ?_
    rintro e w' ⟨rfl, k⟩
    exact ⟨by rw [show (tellP (.truth true)).eq (tellP (.truth true)) = true from TV.eq_self _], k⟩
  clear ho hm hg wo wm wg hs ht
  have hwx : wrap64 x = x := IntWalk.wrap64_in x (by omega)
  have hwy : wrap64 y = y := IntWalk.wrap64_in y (by omega)
  obtain ⟨z, hz⟩ : ∃ z, x + y = z := ⟨_, rfl⟩
  have hz1 := inW_bd hsum
  rw [hz] at hsum hz1
  have P0 : ∀ w, Calls Try.prog 11 #[.string ⟨#[43]⟩, .iface 42 (.int .i64 x), .iface 42 (.int .i64 y)] w fun e w' => e = .returned (.tuple #[.iface 42 (.int .i64 z), .int .i64 0]) ∧ Bl w w' := fun w => by
    refine (Does_any [43] (by decide) (.whole x) (.whole y) (wf_i _ (by omega) (by omega)) (wf_i _ (by omega) (by omega)) w).mono ?_
    rintro e w' ⟨rfl, k⟩
    exact ⟨by rw [show doesP [43] (.whole x) (.whole y) = ((.whole z), 0) from by rw [d_add hx hy, hz, fit_in hsum]]; rfl, k⟩
  have P1 : ∀ w, Calls Try.prog 11 #[.string ⟨#[45]⟩, .iface 42 (.int .i64 z), .iface 42 (.int .i64 y)] w fun e w' => e = .returned (.tuple #[.iface 42 (.int .i64 x), .int .i64 0]) ∧ Bl w w' := fun w => by
    refine (Does_any [45] (by decide) (.whole z) (.whole y) (wf_i _ (by omega) (by omega)) (wf_i _ (by omega) (by omega)) w).mono ?_
    rintro e w' ⟨rfl, k⟩
    exact ⟨by rw [show doesP [45] (.whole z) (.whole y) = ((.whole x), 0) from by rw [d_sub hsum hy, ← hz, Int.add_sub_cancel, fit_in hx]]; rfl, k⟩
  have PS : ∀ w, Calls Try.prog 16 #[.iface 42 (.int .i64 x), .iface 42 (.int .i64 x)] w fun e w' => e = .returned (.bool true) ∧ Bl w w' := fun w => by
    refine (same2_any (.whole x) (.whole x) (wf_i _ (by omega) (by omega)) (wf_i _ (by omega) (by omega)) w).mono ?_
    rintro e w' ⟨rfl, k⟩
    exact ⟨by rw [show (tellP (.whole x)).eq (tellP (.whole x)) = true from TV.eq_self _], k⟩
  have I0 : ∀ w, Calls Try.prog 17 #[.iface 42 (.int .i64 x)] w fun e w' => e = .returned (.bool true) ∧ Bl w w' := fun w => by
    refine (is_any (.whole x) (wf_i _ (by omega) (by omega)) w).mono ?_
    rintro e w' ⟨rfl, k⟩
    exact ⟨by rw [show tellP (.whole x) = ⟨1, 0, nilS, x⟩ from if_pos hx]; rfl, k⟩
  have I1 : ∀ w, Calls Try.prog 17 #[.iface 42 (.int .i64 y)] w fun e w' => e = .returned (.bool true) ∧ Bl w w' := fun w => by
    refine (is_any (.whole y) (wf_i _ (by omega) (by omega)) w).mono ?_
    rintro e w' ⟨rfl, k⟩
    exact ⟨by rw [show tellP (.whole y) = ⟨1, 0, nilS, y⟩ from if_pos hy]; rfl, k⟩
  have hyn : (y != 0) = false := by rw [hy0]; rfl
  clear hx hy bx0 bx1 by0 by1 hz hsum hz1 hy0
  go_enter Try.func5, Try.ntmps5
  go_wp2_with fail
  refine (P0 _).mono ?_
  rintro e w0 ⟨rfl, k0⟩
  go_wp2_with fail
  refine (P1 _).mono ?_
  rintro e w1 ⟨rfl, k1⟩
  have k1 := Bl.on k0 k1
  clear k0
  go_wp2_with fail
  refine (PS _).mono ?_
  rintro e w2 ⟨rfl, k2⟩
  have k2 := Bl.on k1 k2
  clear k1
  go_wp2_with fail
  refine (I0 _).mono ?_
  rintro e w3 ⟨rfl, k3⟩
  have k3 := Bl.on k2 k3
  clear k2
  go_wp2_with fail
  refine (I1 _).mono ?_
  rintro e w4 ⟨rfl, k4⟩
  have k4 := Bl.on k3 k4
  clear k3
  go_wp2_with fail
  refine (D0 _).mono ?_
  rintro e w5 ⟨rfl, k5⟩
  have k5 := Bl.on k4 k5
  clear k4
  go_wp2_with fail
  refine (D1 _).mono ?_
  rintro e w6 ⟨rfl, k6⟩
  have k6 := Bl.on k5 k6
  clear k5
  go_wp2_with fail
  refine (D2 _).mono ?_
  rintro e w7 ⟨rfl, k7⟩
  have k7 := Bl.on k6 k7
  clear k6
  go_wp2_with fail
  refine (D3 _).mono ?_
  rintro e w8 ⟨rfl, k8⟩
  have k8 := Bl.on k7 k8
  clear k7
  go_wp2_with fail
  refine (D4 _).mono ?_
  rintro e w9 ⟨rfl, k9⟩
  have k9 := Bl.on k8 k9
  clear k8
  go_wp2_with fail
  refine (S0 _).mono ?_
  rintro e w10 ⟨rfl, k10⟩
  have k10 := Bl.on k9 k10
  clear k9
  go_wp2_with fail
  refine (S1 _).mono ?_
  rintro e w11 ⟨rfl, k11⟩
  have k11 := Bl.on k10 k11
  clear k10
  go_wp2_with fail
  refine (works_any _).mono ?_
  rintro e w12 ⟨rfl, k12⟩
  have k12 := Bl.on k11 k12
  clear k11
  have KK := Lib.hid k12
  clear k12
  go_wp2_with fail
  go_ret
  exact ⟨rfl, KK.out⟩
theorem back_1tt (a b s t : Int) (x y : Int) (hax : a.tmod 65536 = x) (hby : b.tmod 65536 = y) (bx : -65536 ≤ x ∧ x ≤ 65536) (by_ : -65536 ≤ y ∧ y ≤ 65536) (hs : w16 s) (ht : w16 t) (hx : inW x = true) (hy : inW y = true) (hsum : inW (x + y) = true) (hy0 : ¬ y = 0) (hdiv : inW (x.tdiv y) = true) (W : World) : Calls Try.prog 5 #[.int .i32 a, .int .i32 b, .int .u16 s, .int .u16 t] W fun e w' => e = .returned (.bool true) ∧ Below W.heap.size W w' := by
  obtain ⟨bx0, bx1⟩ := bx
  obtain ⟨by0, by1⟩ := by_
  obtain ⟨o, ho⟩ : ∃ z, orN s t = z := ⟨_, rfl⟩
  have wo : w16 o := by rw [← ho]; exact or_w hs ht
  obtain ⟨m, hm⟩ : ∃ z, andN s t = z := ⟨_, rfl⟩
  have wm : w16 m := by rw [← hm]; exact and_w hs ht
  obtain ⟨g, hg⟩ : ∃ z, xorN s t = z := ⟨_, rfl⟩
  have wg : w16 g := by rw [← hg]; exact xor_w hs ht
  have D0 : ∀ w, Calls Try.prog 11 #[.string ⟨#[43]⟩, .iface 47 (.int .u16 s), .iface 47 (.int .u16 t)] w fun e w' => e = .returned (.tuple #[.iface 47 (.int .u16 o), .int .i64 0]) ∧ Bl w w' := fun w => by
    refine (Does_any [43] (by decide) (.bits s) (.bits t) hs ht w).mono ?_
    rintro e w' ⟨rfl, k⟩
    exact ⟨by rw [show doesP [43] (.bits s) (.bits t) = ((.bits o), 0) from by rw [← ho]; rfl]; rfl, k⟩
  have D1 : ∀ w, Calls Try.prog 11 #[.string ⟨#[42]⟩, .iface 47 (.int .u16 s), .iface 47 (.int .u16 t)] w fun e w' => e = .returned (.tuple #[.iface 47 (.int .u16 m), .int .i64 0]) ∧ Bl w w' := fun w => by
    refine (Does_any [42] (by decide) (.bits s) (.bits t) hs ht w).mono ?_
    rintro e w' ⟨rfl, k⟩
    exact ⟨by rw [show doesP [42] (.bits s) (.bits t) = ((.bits m), 0) from by rw [← hm]; rfl]; rfl, k⟩
  have D2 : ∀ w, Calls Try.prog 11 #[.string ⟨#[47]⟩, .iface 47 (.int .u16 s), .iface 47 (.int .u16 t)] w fun e w' => e = .returned (.tuple #[.iface 47 (.int .u16 g), .int .i64 0]) ∧ Bl w w' := fun w => by
    refine (Does_any [47] (by decide) (.bits s) (.bits t) hs ht w).mono ?_
    rintro e w' ⟨rfl, k⟩
    exact ⟨by rw [show doesP [47] (.bits s) (.bits t) = ((.bits g), 0) from by rw [← hg]; rfl]; rfl, k⟩
  have D3 : ∀ w, Calls Try.prog 11 #[.string ⟨#[45]⟩, .iface 47 (.int .u16 o), .iface 47 (.int .u16 m)] w fun e w' => e = .returned (.tuple #[.iface 47 (.int .u16 g), .int .i64 0]) ∧ Bl w w' := fun w => by
    refine (Does_any [45] (by decide) (.bits o) (.bits m) wo wm w).mono ?_
    rintro e w' ⟨rfl, k⟩
    exact ⟨by rw [show doesP [45] (.bits o) (.bits m) = ((.bits g), 0) from by rw [show doesP [45] (.bits o) (.bits m) = (.bits (offN o m), 0) from rfl, ← ho, ← hm, f_xor hs ht, hg]]; rfl, k⟩
  have D4 : ∀ w, Calls Try.prog 11 #[.string ⟨#[60, 61]⟩, .iface 47 (.int .u16 m), .iface 47 (.int .u16 s)] w fun e w' => e = .returned (.tuple #[.iface 48 (.bool true), .int .i64 0]) ∧ Bl w w' := fun w => by
    refine (Does_any [60, 61] (by decide) (.bits m) (.bits s) wm hs w).mono ?_
    rintro e w' ⟨rfl, k⟩
    exact ⟨by rw [show doesP [60, 61] (.bits m) (.bits s) = ((.truth true), 0) from by rw [show doesP [60, 61] (.bits m) (.bits s) = tru (offN m s == 0) from rfl, ← hm, f_partA t hs]; rfl]; rfl, k⟩
  have S0 : ∀ w, Calls Try.prog 16 #[.iface 47 (.int .u16 g), .iface 47 (.int .u16 g)] w fun e w' => e = .returned (.bool true) ∧ Bl w w' := fun w => by
    refine (same2_any (.bits g) (.bits g) wg wg w).mono ?_
    rintro e w' ⟨rfl, k⟩
    exact ⟨by rw [show (tellP (.bits g)).eq (tellP (.bits g)) = true from TV.eq_self _], k⟩
  have S1 : ∀ w, Calls Try.prog 16 #[.iface 48 (.bool true), .iface 48 (.bool true)] w fun e w' => e = .returned (.bool true) ∧ Bl w w' := fun w => by
    refine (same2_any (.truth true) (.truth true) trivial trivial w).mono ?_
    rintro e w' ⟨rfl, k⟩
    exact ⟨by rw [show (tellP (.truth true)).eq (tellP (.truth true)) = true from TV.eq_self _], k⟩
  clear ho hm hg wo wm wg hs ht
  have hwx : wrap64 x = x := IntWalk.wrap64_in x (by omega)
  have hwy : wrap64 y = y := IntWalk.wrap64_in y (by omega)
  obtain ⟨z, hz⟩ : ∃ z, x + y = z := ⟨_, rfl⟩
  have hz1 := inW_bd hsum
  rw [hz] at hsum hz1
  have P0 : ∀ w, Calls Try.prog 11 #[.string ⟨#[43]⟩, .iface 42 (.int .i64 x), .iface 42 (.int .i64 y)] w fun e w' => e = .returned (.tuple #[.iface 42 (.int .i64 z), .int .i64 0]) ∧ Bl w w' := fun w => by
    refine (Does_any [43] (by decide) (.whole x) (.whole y) (wf_i _ (by omega) (by omega)) (wf_i _ (by omega) (by omega)) w).mono ?_
    rintro e w' ⟨rfl, k⟩
    exact ⟨by rw [show doesP [43] (.whole x) (.whole y) = ((.whole z), 0) from by rw [d_add hx hy, hz, fit_in hsum]]; rfl, k⟩
  have P1 : ∀ w, Calls Try.prog 11 #[.string ⟨#[45]⟩, .iface 42 (.int .i64 z), .iface 42 (.int .i64 y)] w fun e w' => e = .returned (.tuple #[.iface 42 (.int .i64 x), .int .i64 0]) ∧ Bl w w' := fun w => by
    refine (Does_any [45] (by decide) (.whole z) (.whole y) (wf_i _ (by omega) (by omega)) (wf_i _ (by omega) (by omega)) w).mono ?_
    rintro e w' ⟨rfl, k⟩
    exact ⟨by rw [show doesP [45] (.whole z) (.whole y) = ((.whole x), 0) from by rw [d_sub hsum hy, ← hz, Int.add_sub_cancel, fit_in hx]]; rfl, k⟩
  have PS : ∀ w, Calls Try.prog 16 #[.iface 42 (.int .i64 x), .iface 42 (.int .i64 x)] w fun e w' => e = .returned (.bool true) ∧ Bl w w' := fun w => by
    refine (same2_any (.whole x) (.whole x) (wf_i _ (by omega) (by omega)) (wf_i _ (by omega) (by omega)) w).mono ?_
    rintro e w' ⟨rfl, k⟩
    exact ⟨by rw [show (tellP (.whole x)).eq (tellP (.whole x)) = true from TV.eq_self _], k⟩
  have I0 : ∀ w, Calls Try.prog 17 #[.iface 42 (.int .i64 x)] w fun e w' => e = .returned (.bool true) ∧ Bl w w' := fun w => by
    refine (is_any (.whole x) (wf_i _ (by omega) (by omega)) w).mono ?_
    rintro e w' ⟨rfl, k⟩
    exact ⟨by rw [show tellP (.whole x) = ⟨1, 0, nilS, x⟩ from if_pos hx]; rfl, k⟩
  have I1 : ∀ w, Calls Try.prog 17 #[.iface 42 (.int .i64 y)] w fun e w' => e = .returned (.bool true) ∧ Bl w w' := fun w => by
    refine (is_any (.whole y) (wf_i _ (by omega) (by omega)) w).mono ?_
    rintro e w' ⟨rfl, k⟩
    exact ⟨by rw [show tellP (.whole y) = ⟨1, 0, nilS, y⟩ from if_pos hy]; rfl, k⟩
  have hyn : (y != 0) = true := by rw [bne_iff_ne]; exact hy0
  obtain ⟨r, hr⟩ : ∃ r, x.tmod y = r := ⟨_, rfl⟩
  have hrw : inW r = true := by rw [← hr]; exact mod_in hx
  have hrb := inW_bd hrw
  obtain ⟨q, hq⟩ : ∃ q, x.tdiv y = q := ⟨_, rfl⟩
  have hqb := inW_bd hdiv
  rw [hq] at hdiv hqb
  have hmul : q * y + r = x := by rw [← hq, ← hr, Int.mul_comm]; exact Int.mul_tdiv_add_tmod x y
  obtain ⟨u, hu⟩ : ∃ u, q * y = u := ⟨_, rfl⟩
  rw [hu] at hmul
  have hu1 : wrap64 (q * y) = u := by rw [hu]; exact IntWalk.wrap64_in u (by omega)
  have hu2 : wrap64 (u + r) = x := by rw [hmul]; exact hwx
  have Q0 : ∀ w, Calls Try.prog 11 #[.string ⟨#[68, 73, 86]⟩, .iface 42 (.int .i64 x), .iface 42 (.int .i64 y)] w fun e w' => e = .returned (.tuple #[.iface 42 (.int .i64 q), .int .i64 0]) ∧ Bl w w' := fun w => by
    refine (Does_any [68, 73, 86] (by decide) (.whole x) (.whole y) (wf_i _ (by omega) (by omega)) (wf_i _ (by omega) (by omega)) w).mono ?_
    rintro e w' ⟨rfl, k⟩
    exact ⟨by rw [show doesP [68, 73, 86] (.whole x) (.whole y) = ((.whole q), 0) from by rw [d_div hx hy, ovr_ok _ hy0]; show fitP (x.tdiv y) = _; rw [hq, fit_in hdiv]]; rfl, k⟩
  have NQ := number_whole q hdiv
  have Q1 : ∀ w, Calls Try.prog 11 #[.string ⟨#[77, 79, 68]⟩, .iface 42 (.int .i64 x), .iface 42 (.int .i64 y)] w fun e w' => e = .returned (.tuple #[.iface 42 (.int .i64 r), .int .i64 0]) ∧ Bl w w' := fun w => by
    refine (Does_any [77, 79, 68] (by decide) (.whole x) (.whole y) (wf_i _ (by omega) (by omega)) (wf_i _ (by omega) (by omega)) w).mono ?_
    rintro e w' ⟨rfl, k⟩
    exact ⟨by rw [show doesP [77, 79, 68] (.whole x) (.whole y) = ((.whole r), 0) from by rw [d_mod hx hy, ovr_ok _ hy0]; show fitP (x.tmod y) = _; rw [hr, fit_in hrw]]; rfl, k⟩
  have NR := number_whole r hrw
  clear hx hy bx0 bx1 by0 by1 hsum hdiv hy0 hr hrw hrb hz hz1 hq hqb hmul hu
  go_enter Try.func5, Try.ntmps5
  go_wp2_with fail
  refine (P0 _).mono ?_
  rintro e w0 ⟨rfl, k0⟩
  go_wp2_with fail
  refine (P1 _).mono ?_
  rintro e w1 ⟨rfl, k1⟩
  have k1 := Bl.on k0 k1
  clear k0
  go_wp2_with fail
  refine (PS _).mono ?_
  rintro e w2 ⟨rfl, k2⟩
  have k2 := Bl.on k1 k2
  clear k1
  go_wp2_with fail
  refine (I0 _).mono ?_
  rintro e w3 ⟨rfl, k3⟩
  have k3 := Bl.on k2 k3
  clear k2
  go_wp2_with fail
  refine (I1 _).mono ?_
  rintro e w4 ⟨rfl, k4⟩
  have k4 := Bl.on k3 k4
  clear k3
  go_wp2_with fail
  refine (Q0 _).mono ?_
  rintro e w5 ⟨rfl, k5⟩
  have k5 := Bl.on k4 k5
  clear k4
  go_wp2_with fail
  refine (Q1 _).mono ?_
  rintro e w6 ⟨rfl, k6⟩
  have k6 := Bl.on k5 k6
  clear k5
  go_wp2_with fail
  refine (NQ _).mono ?_
  rintro e w7 ⟨rfl, k7⟩
  have k7 := Bl.on k6 k7
  clear k6
  go_wp2_with fail
  refine (NR _).mono ?_
  rintro e w8 ⟨rfl, k8⟩
  have k8 := Bl.on k7 k8
  clear k7
  go_wp2_with fail
  refine (D0 _).mono ?_
  rintro e w9 ⟨rfl, k9⟩
  have k9 := Bl.on k8 k9
  clear k8
  go_wp2_with fail
  refine (D1 _).mono ?_
  rintro e w10 ⟨rfl, k10⟩
  have k10 := Bl.on k9 k10
  clear k9
  go_wp2_with fail
  refine (D2 _).mono ?_
  rintro e w11 ⟨rfl, k11⟩
  have k11 := Bl.on k10 k11
  clear k10
  go_wp2_with fail
  refine (D3 _).mono ?_
  rintro e w12 ⟨rfl, k12⟩
  have k12 := Bl.on k11 k12
  clear k11
  go_wp2_with fail
  refine (D4 _).mono ?_
  rintro e w13 ⟨rfl, k13⟩
  have k13 := Bl.on k12 k13
  clear k12
  go_wp2_with fail
  refine (S0 _).mono ?_
  rintro e w14 ⟨rfl, k14⟩
  have k14 := Bl.on k13 k14
  clear k13
  go_wp2_with fail
  refine (S1 _).mono ?_
  rintro e w15 ⟨rfl, k15⟩
  have k15 := Bl.on k14 k15
  clear k14
  go_wp2_with fail
  refine (works_any _).mono ?_
  rintro e w16 ⟨rfl, k16⟩
  have k16 := Bl.on k15 k16
  clear k15
  have KK := Lib.hid k16
  clear k16
  go_wp2_with fail
  go_ret
  exact ⟨rfl, KK.out⟩
theorem back_1tf (a b s t : Int) (x y : Int) (hax : a.tmod 65536 = x) (hby : b.tmod 65536 = y) (bx : -65536 ≤ x ∧ x ≤ 65536) (by_ : -65536 ≤ y ∧ y ≤ 65536) (hs : w16 s) (ht : w16 t) (hx : inW x = true) (hy : inW y = true) (hsum : inW (x + y) = true) (hy0 : ¬ y = 0) (hdiv : inW (x.tdiv y) = false) (W : World) : Calls Try.prog 5 #[.int .i32 a, .int .i32 b, .int .u16 s, .int .u16 t] W fun e w' => e = .returned (.bool true) ∧ Below W.heap.size W w' := by
  obtain ⟨bx0, bx1⟩ := bx
  obtain ⟨by0, by1⟩ := by_
  obtain ⟨o, ho⟩ : ∃ z, orN s t = z := ⟨_, rfl⟩
  have wo : w16 o := by rw [← ho]; exact or_w hs ht
  obtain ⟨m, hm⟩ : ∃ z, andN s t = z := ⟨_, rfl⟩
  have wm : w16 m := by rw [← hm]; exact and_w hs ht
  obtain ⟨g, hg⟩ : ∃ z, xorN s t = z := ⟨_, rfl⟩
  have wg : w16 g := by rw [← hg]; exact xor_w hs ht
  have D0 : ∀ w, Calls Try.prog 11 #[.string ⟨#[43]⟩, .iface 47 (.int .u16 s), .iface 47 (.int .u16 t)] w fun e w' => e = .returned (.tuple #[.iface 47 (.int .u16 o), .int .i64 0]) ∧ Bl w w' := fun w => by
    refine (Does_any [43] (by decide) (.bits s) (.bits t) hs ht w).mono ?_
    rintro e w' ⟨rfl, k⟩
    exact ⟨by rw [show doesP [43] (.bits s) (.bits t) = ((.bits o), 0) from by rw [← ho]; rfl]; rfl, k⟩
  have D1 : ∀ w, Calls Try.prog 11 #[.string ⟨#[42]⟩, .iface 47 (.int .u16 s), .iface 47 (.int .u16 t)] w fun e w' => e = .returned (.tuple #[.iface 47 (.int .u16 m), .int .i64 0]) ∧ Bl w w' := fun w => by
    refine (Does_any [42] (by decide) (.bits s) (.bits t) hs ht w).mono ?_
    rintro e w' ⟨rfl, k⟩
    exact ⟨by rw [show doesP [42] (.bits s) (.bits t) = ((.bits m), 0) from by rw [← hm]; rfl]; rfl, k⟩
  have D2 : ∀ w, Calls Try.prog 11 #[.string ⟨#[47]⟩, .iface 47 (.int .u16 s), .iface 47 (.int .u16 t)] w fun e w' => e = .returned (.tuple #[.iface 47 (.int .u16 g), .int .i64 0]) ∧ Bl w w' := fun w => by
    refine (Does_any [47] (by decide) (.bits s) (.bits t) hs ht w).mono ?_
    rintro e w' ⟨rfl, k⟩
    exact ⟨by rw [show doesP [47] (.bits s) (.bits t) = ((.bits g), 0) from by rw [← hg]; rfl]; rfl, k⟩
  have D3 : ∀ w, Calls Try.prog 11 #[.string ⟨#[45]⟩, .iface 47 (.int .u16 o), .iface 47 (.int .u16 m)] w fun e w' => e = .returned (.tuple #[.iface 47 (.int .u16 g), .int .i64 0]) ∧ Bl w w' := fun w => by
    refine (Does_any [45] (by decide) (.bits o) (.bits m) wo wm w).mono ?_
    rintro e w' ⟨rfl, k⟩
    exact ⟨by rw [show doesP [45] (.bits o) (.bits m) = ((.bits g), 0) from by rw [show doesP [45] (.bits o) (.bits m) = (.bits (offN o m), 0) from rfl, ← ho, ← hm, f_xor hs ht, hg]]; rfl, k⟩
  have D4 : ∀ w, Calls Try.prog 11 #[.string ⟨#[60, 61]⟩, .iface 47 (.int .u16 m), .iface 47 (.int .u16 s)] w fun e w' => e = .returned (.tuple #[.iface 48 (.bool true), .int .i64 0]) ∧ Bl w w' := fun w => by
    refine (Does_any [60, 61] (by decide) (.bits m) (.bits s) wm hs w).mono ?_
    rintro e w' ⟨rfl, k⟩
    exact ⟨by rw [show doesP [60, 61] (.bits m) (.bits s) = ((.truth true), 0) from by rw [show doesP [60, 61] (.bits m) (.bits s) = tru (offN m s == 0) from rfl, ← hm, f_partA t hs]; rfl]; rfl, k⟩
  have S0 : ∀ w, Calls Try.prog 16 #[.iface 47 (.int .u16 g), .iface 47 (.int .u16 g)] w fun e w' => e = .returned (.bool true) ∧ Bl w w' := fun w => by
    refine (same2_any (.bits g) (.bits g) wg wg w).mono ?_
    rintro e w' ⟨rfl, k⟩
    exact ⟨by rw [show (tellP (.bits g)).eq (tellP (.bits g)) = true from TV.eq_self _], k⟩
  have S1 : ∀ w, Calls Try.prog 16 #[.iface 48 (.bool true), .iface 48 (.bool true)] w fun e w' => e = .returned (.bool true) ∧ Bl w w' := fun w => by
    refine (same2_any (.truth true) (.truth true) trivial trivial w).mono ?_
    rintro e w' ⟨rfl, k⟩
    exact ⟨by rw [show (tellP (.truth true)).eq (tellP (.truth true)) = true from TV.eq_self _], k⟩
  clear ho hm hg wo wm wg hs ht
  have hwx : wrap64 x = x := IntWalk.wrap64_in x (by omega)
  have hwy : wrap64 y = y := IntWalk.wrap64_in y (by omega)
  obtain ⟨z, hz⟩ : ∃ z, x + y = z := ⟨_, rfl⟩
  have hz1 := inW_bd hsum
  rw [hz] at hsum hz1
  have P0 : ∀ w, Calls Try.prog 11 #[.string ⟨#[43]⟩, .iface 42 (.int .i64 x), .iface 42 (.int .i64 y)] w fun e w' => e = .returned (.tuple #[.iface 42 (.int .i64 z), .int .i64 0]) ∧ Bl w w' := fun w => by
    refine (Does_any [43] (by decide) (.whole x) (.whole y) (wf_i _ (by omega) (by omega)) (wf_i _ (by omega) (by omega)) w).mono ?_
    rintro e w' ⟨rfl, k⟩
    exact ⟨by rw [show doesP [43] (.whole x) (.whole y) = ((.whole z), 0) from by rw [d_add hx hy, hz, fit_in hsum]]; rfl, k⟩
  have P1 : ∀ w, Calls Try.prog 11 #[.string ⟨#[45]⟩, .iface 42 (.int .i64 z), .iface 42 (.int .i64 y)] w fun e w' => e = .returned (.tuple #[.iface 42 (.int .i64 x), .int .i64 0]) ∧ Bl w w' := fun w => by
    refine (Does_any [45] (by decide) (.whole z) (.whole y) (wf_i _ (by omega) (by omega)) (wf_i _ (by omega) (by omega)) w).mono ?_
    rintro e w' ⟨rfl, k⟩
    exact ⟨by rw [show doesP [45] (.whole z) (.whole y) = ((.whole x), 0) from by rw [d_sub hsum hy, ← hz, Int.add_sub_cancel, fit_in hx]]; rfl, k⟩
  have PS : ∀ w, Calls Try.prog 16 #[.iface 42 (.int .i64 x), .iface 42 (.int .i64 x)] w fun e w' => e = .returned (.bool true) ∧ Bl w w' := fun w => by
    refine (same2_any (.whole x) (.whole x) (wf_i _ (by omega) (by omega)) (wf_i _ (by omega) (by omega)) w).mono ?_
    rintro e w' ⟨rfl, k⟩
    exact ⟨by rw [show (tellP (.whole x)).eq (tellP (.whole x)) = true from TV.eq_self _], k⟩
  have I0 : ∀ w, Calls Try.prog 17 #[.iface 42 (.int .i64 x)] w fun e w' => e = .returned (.bool true) ∧ Bl w w' := fun w => by
    refine (is_any (.whole x) (wf_i _ (by omega) (by omega)) w).mono ?_
    rintro e w' ⟨rfl, k⟩
    exact ⟨by rw [show tellP (.whole x) = ⟨1, 0, nilS, x⟩ from if_pos hx]; rfl, k⟩
  have I1 : ∀ w, Calls Try.prog 17 #[.iface 42 (.int .i64 y)] w fun e w' => e = .returned (.bool true) ∧ Bl w w' := fun w => by
    refine (is_any (.whole y) (wf_i _ (by omega) (by omega)) w).mono ?_
    rintro e w' ⟨rfl, k⟩
    exact ⟨by rw [show tellP (.whole y) = ⟨1, 0, nilS, y⟩ from if_pos hy]; rfl, k⟩
  have hyn : (y != 0) = true := by rw [bne_iff_ne]; exact hy0
  obtain ⟨r, hr⟩ : ∃ r, x.tmod y = r := ⟨_, rfl⟩
  have hrw : inW r = true := by rw [← hr]; exact mod_in hx
  have hrb := inW_bd hrw
  have Q0 : ∀ w, Calls Try.prog 11 #[.string ⟨#[68, 73, 86]⟩, .iface 42 (.int .i64 x), .iface 42 (.int .i64 y)] w fun e w' => e = .returned (.tuple #[.nilIface, .int .i64 101]) ∧ Bl w w' := fun w => by
    refine (Does_any [68, 73, 86] (by decide) (.whole x) (.whole y) (wf_i _ (by omega) (by omega)) (wf_i _ (by omega) (by omega)) w).mono ?_
    rintro e w' ⟨rfl, k⟩
    exact ⟨by rw [show doesP [68, 73, 86] (.whole x) (.whole y) = (.none, 101) from by rw [d_div hx hy, ovr_ok _ hy0]; exact fit_out hdiv]; rfl, k⟩
  have Q1 : ∀ w, Calls Try.prog 11 #[.string ⟨#[77, 79, 68]⟩, .iface 42 (.int .i64 x), .iface 42 (.int .i64 y)] w fun e w' => e = .returned (.tuple #[.iface 42 (.int .i64 r), .int .i64 0]) ∧ Bl w w' := fun w => by
    refine (Does_any [77, 79, 68] (by decide) (.whole x) (.whole y) (wf_i _ (by omega) (by omega)) (wf_i _ (by omega) (by omega)) w).mono ?_
    rintro e w' ⟨rfl, k⟩
    exact ⟨by rw [show doesP [77, 79, 68] (.whole x) (.whole y) = ((.whole r), 0) from by rw [d_mod hx hy, ovr_ok _ hy0]; show fitP (x.tmod y) = _; rw [hr, fit_in hrw]]; rfl, k⟩
  have NR := number_whole r hrw
  clear hx hy bx0 bx1 by0 by1 hsum hdiv hy0 hr hrw hrb hz hz1
  go_enter Try.func5, Try.ntmps5
  go_wp2_with fail
  refine (P0 _).mono ?_
  rintro e w0 ⟨rfl, k0⟩
  go_wp2_with fail
  refine (P1 _).mono ?_
  rintro e w1 ⟨rfl, k1⟩
  have k1 := Bl.on k0 k1
  clear k0
  go_wp2_with fail
  refine (PS _).mono ?_
  rintro e w2 ⟨rfl, k2⟩
  have k2 := Bl.on k1 k2
  clear k1
  go_wp2_with fail
  refine (I0 _).mono ?_
  rintro e w3 ⟨rfl, k3⟩
  have k3 := Bl.on k2 k3
  clear k2
  go_wp2_with fail
  refine (I1 _).mono ?_
  rintro e w4 ⟨rfl, k4⟩
  have k4 := Bl.on k3 k4
  clear k3
  go_wp2_with fail
  refine (Q0 _).mono ?_
  rintro e w5 ⟨rfl, k5⟩
  have k5 := Bl.on k4 k5
  clear k4
  go_wp2_with fail
  refine (Q1 _).mono ?_
  rintro e w6 ⟨rfl, k6⟩
  have k6 := Bl.on k5 k6
  clear k5
  go_wp2_with fail
  refine (number_none _).mono ?_
  rintro e w7 ⟨rfl, k7⟩
  have k7 := Bl.on k6 k7
  clear k6
  go_wp2_with fail
  refine (NR _).mono ?_
  rintro e w8 ⟨rfl, k8⟩
  have k8 := Bl.on k7 k8
  clear k7
  go_wp2_with fail
  refine (D0 _).mono ?_
  rintro e w9 ⟨rfl, k9⟩
  have k9 := Bl.on k8 k9
  clear k8
  go_wp2_with fail
  refine (D1 _).mono ?_
  rintro e w10 ⟨rfl, k10⟩
  have k10 := Bl.on k9 k10
  clear k9
  go_wp2_with fail
  refine (D2 _).mono ?_
  rintro e w11 ⟨rfl, k11⟩
  have k11 := Bl.on k10 k11
  clear k10
  go_wp2_with fail
  refine (D3 _).mono ?_
  rintro e w12 ⟨rfl, k12⟩
  have k12 := Bl.on k11 k12
  clear k11
  go_wp2_with fail
  refine (D4 _).mono ?_
  rintro e w13 ⟨rfl, k13⟩
  have k13 := Bl.on k12 k13
  clear k12
  go_wp2_with fail
  refine (S0 _).mono ?_
  rintro e w14 ⟨rfl, k14⟩
  have k14 := Bl.on k13 k14
  clear k13
  go_wp2_with fail
  refine (S1 _).mono ?_
  rintro e w15 ⟨rfl, k15⟩
  have k15 := Bl.on k14 k15
  clear k14
  go_wp2_with fail
  refine (works_any _).mono ?_
  rintro e w16 ⟨rfl, k16⟩
  have k16 := Bl.on k15 k16
  clear k15
  have KK := Lib.hid k16
  clear k16
  go_wp2_with fail
  go_ret
  exact ⟨rfl, KK.out⟩
theorem back_1ft (a b s t : Int) (x y : Int) (hax : a.tmod 65536 = x) (hby : b.tmod 65536 = y) (bx : -65536 ≤ x ∧ x ≤ 65536) (by_ : -65536 ≤ y ∧ y ≤ 65536) (hs : w16 s) (ht : w16 t) (hx : inW x = true) (hy : inW y = true) (hsum : inW (x + y) = false) (hy0 : ¬ y = 0) (hdiv : inW (x.tdiv y) = true) (W : World) : Calls Try.prog 5 #[.int .i32 a, .int .i32 b, .int .u16 s, .int .u16 t] W fun e w' => e = .returned (.bool true) ∧ Below W.heap.size W w' := by
  obtain ⟨bx0, bx1⟩ := bx
  obtain ⟨by0, by1⟩ := by_
  obtain ⟨o, ho⟩ : ∃ z, orN s t = z := ⟨_, rfl⟩
  have wo : w16 o := by rw [← ho]; exact or_w hs ht
  obtain ⟨m, hm⟩ : ∃ z, andN s t = z := ⟨_, rfl⟩
  have wm : w16 m := by rw [← hm]; exact and_w hs ht
  obtain ⟨g, hg⟩ : ∃ z, xorN s t = z := ⟨_, rfl⟩
  have wg : w16 g := by rw [← hg]; exact xor_w hs ht
  have D0 : ∀ w, Calls Try.prog 11 #[.string ⟨#[43]⟩, .iface 47 (.int .u16 s), .iface 47 (.int .u16 t)] w fun e w' => e = .returned (.tuple #[.iface 47 (.int .u16 o), .int .i64 0]) ∧ Bl w w' := fun w => by
    refine (Does_any [43] (by decide) (.bits s) (.bits t) hs ht w).mono ?_
    rintro e w' ⟨rfl, k⟩
    exact ⟨by rw [show doesP [43] (.bits s) (.bits t) = ((.bits o), 0) from by rw [← ho]; rfl]; rfl, k⟩
  have D1 : ∀ w, Calls Try.prog 11 #[.string ⟨#[42]⟩, .iface 47 (.int .u16 s), .iface 47 (.int .u16 t)] w fun e w' => e = .returned (.tuple #[.iface 47 (.int .u16 m), .int .i64 0]) ∧ Bl w w' := fun w => by
    refine (Does_any [42] (by decide) (.bits s) (.bits t) hs ht w).mono ?_
    rintro e w' ⟨rfl, k⟩
    exact ⟨by rw [show doesP [42] (.bits s) (.bits t) = ((.bits m), 0) from by rw [← hm]; rfl]; rfl, k⟩
  have D2 : ∀ w, Calls Try.prog 11 #[.string ⟨#[47]⟩, .iface 47 (.int .u16 s), .iface 47 (.int .u16 t)] w fun e w' => e = .returned (.tuple #[.iface 47 (.int .u16 g), .int .i64 0]) ∧ Bl w w' := fun w => by
    refine (Does_any [47] (by decide) (.bits s) (.bits t) hs ht w).mono ?_
    rintro e w' ⟨rfl, k⟩
    exact ⟨by rw [show doesP [47] (.bits s) (.bits t) = ((.bits g), 0) from by rw [← hg]; rfl]; rfl, k⟩
  have D3 : ∀ w, Calls Try.prog 11 #[.string ⟨#[45]⟩, .iface 47 (.int .u16 o), .iface 47 (.int .u16 m)] w fun e w' => e = .returned (.tuple #[.iface 47 (.int .u16 g), .int .i64 0]) ∧ Bl w w' := fun w => by
    refine (Does_any [45] (by decide) (.bits o) (.bits m) wo wm w).mono ?_
    rintro e w' ⟨rfl, k⟩
    exact ⟨by rw [show doesP [45] (.bits o) (.bits m) = ((.bits g), 0) from by rw [show doesP [45] (.bits o) (.bits m) = (.bits (offN o m), 0) from rfl, ← ho, ← hm, f_xor hs ht, hg]]; rfl, k⟩
  have D4 : ∀ w, Calls Try.prog 11 #[.string ⟨#[60, 61]⟩, .iface 47 (.int .u16 m), .iface 47 (.int .u16 s)] w fun e w' => e = .returned (.tuple #[.iface 48 (.bool true), .int .i64 0]) ∧ Bl w w' := fun w => by
    refine (Does_any [60, 61] (by decide) (.bits m) (.bits s) wm hs w).mono ?_
    rintro e w' ⟨rfl, k⟩
    exact ⟨by rw [show doesP [60, 61] (.bits m) (.bits s) = ((.truth true), 0) from by rw [show doesP [60, 61] (.bits m) (.bits s) = tru (offN m s == 0) from rfl, ← hm, f_partA t hs]; rfl]; rfl, k⟩
  have S0 : ∀ w, Calls Try.prog 16 #[.iface 47 (.int .u16 g), .iface 47 (.int .u16 g)] w fun e w' => e = .returned (.bool true) ∧ Bl w w' := fun w => by
    refine (same2_any (.bits g) (.bits g) wg wg w).mono ?_
    rintro e w' ⟨rfl, k⟩
    exact ⟨by rw [show (tellP (.bits g)).eq (tellP (.bits g)) = true from TV.eq_self _], k⟩
  have S1 : ∀ w, Calls Try.prog 16 #[.iface 48 (.bool true), .iface 48 (.bool true)] w fun e w' => e = .returned (.bool true) ∧ Bl w w' := fun w => by
    refine (same2_any (.truth true) (.truth true) trivial trivial w).mono ?_
    rintro e w' ⟨rfl, k⟩
    exact ⟨by rw [show (tellP (.truth true)).eq (tellP (.truth true)) = true from TV.eq_self _], k⟩
  clear ho hm hg wo wm wg hs ht
  have hwx : wrap64 x = x := IntWalk.wrap64_in x (by omega)
  have hwy : wrap64 y = y := IntWalk.wrap64_in y (by omega)
  have P0 : ∀ w, Calls Try.prog 11 #[.string ⟨#[43]⟩, .iface 42 (.int .i64 x), .iface 42 (.int .i64 y)] w fun e w' => e = .returned (.tuple #[.nilIface, .int .i64 101]) ∧ Bl w w' := fun w => by
    refine (Does_any [43] (by decide) (.whole x) (.whole y) (wf_i _ (by omega) (by omega)) (wf_i _ (by omega) (by omega)) w).mono ?_
    rintro e w' ⟨rfl, k⟩
    exact ⟨by rw [show doesP [43] (.whole x) (.whole y) = (.none, 101) from by rw [d_add hx hy, fit_out hsum]]; rfl, k⟩
  have I0 : ∀ w, Calls Try.prog 17 #[.iface 42 (.int .i64 x)] w fun e w' => e = .returned (.bool true) ∧ Bl w w' := fun w => by
    refine (is_any (.whole x) (wf_i _ (by omega) (by omega)) w).mono ?_
    rintro e w' ⟨rfl, k⟩
    exact ⟨by rw [show tellP (.whole x) = ⟨1, 0, nilS, x⟩ from if_pos hx]; rfl, k⟩
  have I1 : ∀ w, Calls Try.prog 17 #[.iface 42 (.int .i64 y)] w fun e w' => e = .returned (.bool true) ∧ Bl w w' := fun w => by
    refine (is_any (.whole y) (wf_i _ (by omega) (by omega)) w).mono ?_
    rintro e w' ⟨rfl, k⟩
    exact ⟨by rw [show tellP (.whole y) = ⟨1, 0, nilS, y⟩ from if_pos hy]; rfl, k⟩
  have hyn : (y != 0) = true := by rw [bne_iff_ne]; exact hy0
  obtain ⟨r, hr⟩ : ∃ r, x.tmod y = r := ⟨_, rfl⟩
  have hrw : inW r = true := by rw [← hr]; exact mod_in hx
  have hrb := inW_bd hrw
  obtain ⟨q, hq⟩ : ∃ q, x.tdiv y = q := ⟨_, rfl⟩
  have hqb := inW_bd hdiv
  rw [hq] at hdiv hqb
  have hmul : q * y + r = x := by rw [← hq, ← hr, Int.mul_comm]; exact Int.mul_tdiv_add_tmod x y
  obtain ⟨u, hu⟩ : ∃ u, q * y = u := ⟨_, rfl⟩
  rw [hu] at hmul
  have hu1 : wrap64 (q * y) = u := by rw [hu]; exact IntWalk.wrap64_in u (by omega)
  have hu2 : wrap64 (u + r) = x := by rw [hmul]; exact hwx
  have Q0 : ∀ w, Calls Try.prog 11 #[.string ⟨#[68, 73, 86]⟩, .iface 42 (.int .i64 x), .iface 42 (.int .i64 y)] w fun e w' => e = .returned (.tuple #[.iface 42 (.int .i64 q), .int .i64 0]) ∧ Bl w w' := fun w => by
    refine (Does_any [68, 73, 86] (by decide) (.whole x) (.whole y) (wf_i _ (by omega) (by omega)) (wf_i _ (by omega) (by omega)) w).mono ?_
    rintro e w' ⟨rfl, k⟩
    exact ⟨by rw [show doesP [68, 73, 86] (.whole x) (.whole y) = ((.whole q), 0) from by rw [d_div hx hy, ovr_ok _ hy0]; show fitP (x.tdiv y) = _; rw [hq, fit_in hdiv]]; rfl, k⟩
  have NQ := number_whole q hdiv
  have Q1 : ∀ w, Calls Try.prog 11 #[.string ⟨#[77, 79, 68]⟩, .iface 42 (.int .i64 x), .iface 42 (.int .i64 y)] w fun e w' => e = .returned (.tuple #[.iface 42 (.int .i64 r), .int .i64 0]) ∧ Bl w w' := fun w => by
    refine (Does_any [77, 79, 68] (by decide) (.whole x) (.whole y) (wf_i _ (by omega) (by omega)) (wf_i _ (by omega) (by omega)) w).mono ?_
    rintro e w' ⟨rfl, k⟩
    exact ⟨by rw [show doesP [77, 79, 68] (.whole x) (.whole y) = ((.whole r), 0) from by rw [d_mod hx hy, ovr_ok _ hy0]; show fitP (x.tmod y) = _; rw [hr, fit_in hrw]]; rfl, k⟩
  have NR := number_whole r hrw
  clear hx hy bx0 bx1 by0 by1 hsum hdiv hy0 hr hrw hrb hq hqb hmul hu
  go_enter Try.func5, Try.ntmps5
  go_wp2_with fail
  refine (P0 _).mono ?_
  rintro e w0 ⟨rfl, k0⟩
  go_wp2_with fail
  refine (I0 _).mono ?_
  rintro e w1 ⟨rfl, k1⟩
  have k1 := Bl.on k0 k1
  clear k0
  go_wp2_with fail
  refine (I1 _).mono ?_
  rintro e w2 ⟨rfl, k2⟩
  have k2 := Bl.on k1 k2
  clear k1
  go_wp2_with fail
  refine (Q0 _).mono ?_
  rintro e w3 ⟨rfl, k3⟩
  have k3 := Bl.on k2 k3
  clear k2
  go_wp2_with fail
  refine (Q1 _).mono ?_
  rintro e w4 ⟨rfl, k4⟩
  have k4 := Bl.on k3 k4
  clear k3
  go_wp2_with fail
  refine (NQ _).mono ?_
  rintro e w5 ⟨rfl, k5⟩
  have k5 := Bl.on k4 k5
  clear k4
  go_wp2_with fail
  refine (NR _).mono ?_
  rintro e w6 ⟨rfl, k6⟩
  have k6 := Bl.on k5 k6
  clear k5
  go_wp2_with fail
  refine (D0 _).mono ?_
  rintro e w7 ⟨rfl, k7⟩
  have k7 := Bl.on k6 k7
  clear k6
  go_wp2_with fail
  refine (D1 _).mono ?_
  rintro e w8 ⟨rfl, k8⟩
  have k8 := Bl.on k7 k8
  clear k7
  go_wp2_with fail
  refine (D2 _).mono ?_
  rintro e w9 ⟨rfl, k9⟩
  have k9 := Bl.on k8 k9
  clear k8
  go_wp2_with fail
  refine (D3 _).mono ?_
  rintro e w10 ⟨rfl, k10⟩
  have k10 := Bl.on k9 k10
  clear k9
  go_wp2_with fail
  refine (D4 _).mono ?_
  rintro e w11 ⟨rfl, k11⟩
  have k11 := Bl.on k10 k11
  clear k10
  go_wp2_with fail
  refine (S0 _).mono ?_
  rintro e w12 ⟨rfl, k12⟩
  have k12 := Bl.on k11 k12
  clear k11
  go_wp2_with fail
  refine (S1 _).mono ?_
  rintro e w13 ⟨rfl, k13⟩
  have k13 := Bl.on k12 k13
  clear k12
  go_wp2_with fail
  refine (works_any _).mono ?_
  rintro e w14 ⟨rfl, k14⟩
  have k14 := Bl.on k13 k14
  clear k13
  have KK := Lib.hid k14
  clear k14
  go_wp2_with fail
  go_ret
  exact ⟨rfl, KK.out⟩
theorem back_1ff (a b s t : Int) (x y : Int) (hax : a.tmod 65536 = x) (hby : b.tmod 65536 = y) (bx : -65536 ≤ x ∧ x ≤ 65536) (by_ : -65536 ≤ y ∧ y ≤ 65536) (hs : w16 s) (ht : w16 t) (hx : inW x = true) (hy : inW y = true) (hsum : inW (x + y) = false) (hy0 : ¬ y = 0) (hdiv : inW (x.tdiv y) = false) (W : World) : Calls Try.prog 5 #[.int .i32 a, .int .i32 b, .int .u16 s, .int .u16 t] W fun e w' => e = .returned (.bool true) ∧ Below W.heap.size W w' := by
  obtain ⟨bx0, bx1⟩ := bx
  obtain ⟨by0, by1⟩ := by_
  obtain ⟨o, ho⟩ : ∃ z, orN s t = z := ⟨_, rfl⟩
  have wo : w16 o := by rw [← ho]; exact or_w hs ht
  obtain ⟨m, hm⟩ : ∃ z, andN s t = z := ⟨_, rfl⟩
  have wm : w16 m := by rw [← hm]; exact and_w hs ht
  obtain ⟨g, hg⟩ : ∃ z, xorN s t = z := ⟨_, rfl⟩
  have wg : w16 g := by rw [← hg]; exact xor_w hs ht
  have D0 : ∀ w, Calls Try.prog 11 #[.string ⟨#[43]⟩, .iface 47 (.int .u16 s), .iface 47 (.int .u16 t)] w fun e w' => e = .returned (.tuple #[.iface 47 (.int .u16 o), .int .i64 0]) ∧ Bl w w' := fun w => by
    refine (Does_any [43] (by decide) (.bits s) (.bits t) hs ht w).mono ?_
    rintro e w' ⟨rfl, k⟩
    exact ⟨by rw [show doesP [43] (.bits s) (.bits t) = ((.bits o), 0) from by rw [← ho]; rfl]; rfl, k⟩
  have D1 : ∀ w, Calls Try.prog 11 #[.string ⟨#[42]⟩, .iface 47 (.int .u16 s), .iface 47 (.int .u16 t)] w fun e w' => e = .returned (.tuple #[.iface 47 (.int .u16 m), .int .i64 0]) ∧ Bl w w' := fun w => by
    refine (Does_any [42] (by decide) (.bits s) (.bits t) hs ht w).mono ?_
    rintro e w' ⟨rfl, k⟩
    exact ⟨by rw [show doesP [42] (.bits s) (.bits t) = ((.bits m), 0) from by rw [← hm]; rfl]; rfl, k⟩
  have D2 : ∀ w, Calls Try.prog 11 #[.string ⟨#[47]⟩, .iface 47 (.int .u16 s), .iface 47 (.int .u16 t)] w fun e w' => e = .returned (.tuple #[.iface 47 (.int .u16 g), .int .i64 0]) ∧ Bl w w' := fun w => by
    refine (Does_any [47] (by decide) (.bits s) (.bits t) hs ht w).mono ?_
    rintro e w' ⟨rfl, k⟩
    exact ⟨by rw [show doesP [47] (.bits s) (.bits t) = ((.bits g), 0) from by rw [← hg]; rfl]; rfl, k⟩
  have D3 : ∀ w, Calls Try.prog 11 #[.string ⟨#[45]⟩, .iface 47 (.int .u16 o), .iface 47 (.int .u16 m)] w fun e w' => e = .returned (.tuple #[.iface 47 (.int .u16 g), .int .i64 0]) ∧ Bl w w' := fun w => by
    refine (Does_any [45] (by decide) (.bits o) (.bits m) wo wm w).mono ?_
    rintro e w' ⟨rfl, k⟩
    exact ⟨by rw [show doesP [45] (.bits o) (.bits m) = ((.bits g), 0) from by rw [show doesP [45] (.bits o) (.bits m) = (.bits (offN o m), 0) from rfl, ← ho, ← hm, f_xor hs ht, hg]]; rfl, k⟩
  have D4 : ∀ w, Calls Try.prog 11 #[.string ⟨#[60, 61]⟩, .iface 47 (.int .u16 m), .iface 47 (.int .u16 s)] w fun e w' => e = .returned (.tuple #[.iface 48 (.bool true), .int .i64 0]) ∧ Bl w w' := fun w => by
    refine (Does_any [60, 61] (by decide) (.bits m) (.bits s) wm hs w).mono ?_
    rintro e w' ⟨rfl, k⟩
    exact ⟨by rw [show doesP [60, 61] (.bits m) (.bits s) = ((.truth true), 0) from by rw [show doesP [60, 61] (.bits m) (.bits s) = tru (offN m s == 0) from rfl, ← hm, f_partA t hs]; rfl]; rfl, k⟩
  have S0 : ∀ w, Calls Try.prog 16 #[.iface 47 (.int .u16 g), .iface 47 (.int .u16 g)] w fun e w' => e = .returned (.bool true) ∧ Bl w w' := fun w => by
    refine (same2_any (.bits g) (.bits g) wg wg w).mono ?_
    rintro e w' ⟨rfl, k⟩
    exact ⟨by rw [show (tellP (.bits g)).eq (tellP (.bits g)) = true from TV.eq_self _], k⟩
  have S1 : ∀ w, Calls Try.prog 16 #[.iface 48 (.bool true), .iface 48 (.bool true)] w fun e w' => e = .returned (.bool true) ∧ Bl w w' := fun w => by
    refine (same2_any (.truth true) (.truth true) trivial trivial w).mono ?_
    rintro e w' ⟨rfl, k⟩
    exact ⟨by rw [show (tellP (.truth true)).eq (tellP (.truth true)) = true from TV.eq_self _], k⟩
  clear ho hm hg wo wm wg hs ht
  have hwx : wrap64 x = x := IntWalk.wrap64_in x (by omega)
  have hwy : wrap64 y = y := IntWalk.wrap64_in y (by omega)
  have P0 : ∀ w, Calls Try.prog 11 #[.string ⟨#[43]⟩, .iface 42 (.int .i64 x), .iface 42 (.int .i64 y)] w fun e w' => e = .returned (.tuple #[.nilIface, .int .i64 101]) ∧ Bl w w' := fun w => by
    refine (Does_any [43] (by decide) (.whole x) (.whole y) (wf_i _ (by omega) (by omega)) (wf_i _ (by omega) (by omega)) w).mono ?_
    rintro e w' ⟨rfl, k⟩
    exact ⟨by rw [show doesP [43] (.whole x) (.whole y) = (.none, 101) from by rw [d_add hx hy, fit_out hsum]]; rfl, k⟩
  have I0 : ∀ w, Calls Try.prog 17 #[.iface 42 (.int .i64 x)] w fun e w' => e = .returned (.bool true) ∧ Bl w w' := fun w => by
    refine (is_any (.whole x) (wf_i _ (by omega) (by omega)) w).mono ?_
    rintro e w' ⟨rfl, k⟩
    exact ⟨by rw [show tellP (.whole x) = ⟨1, 0, nilS, x⟩ from if_pos hx]; rfl, k⟩
  have I1 : ∀ w, Calls Try.prog 17 #[.iface 42 (.int .i64 y)] w fun e w' => e = .returned (.bool true) ∧ Bl w w' := fun w => by
    refine (is_any (.whole y) (wf_i _ (by omega) (by omega)) w).mono ?_
    rintro e w' ⟨rfl, k⟩
    exact ⟨by rw [show tellP (.whole y) = ⟨1, 0, nilS, y⟩ from if_pos hy]; rfl, k⟩
  have hyn : (y != 0) = true := by rw [bne_iff_ne]; exact hy0
  obtain ⟨r, hr⟩ : ∃ r, x.tmod y = r := ⟨_, rfl⟩
  have hrw : inW r = true := by rw [← hr]; exact mod_in hx
  have hrb := inW_bd hrw
  have Q0 : ∀ w, Calls Try.prog 11 #[.string ⟨#[68, 73, 86]⟩, .iface 42 (.int .i64 x), .iface 42 (.int .i64 y)] w fun e w' => e = .returned (.tuple #[.nilIface, .int .i64 101]) ∧ Bl w w' := fun w => by
    refine (Does_any [68, 73, 86] (by decide) (.whole x) (.whole y) (wf_i _ (by omega) (by omega)) (wf_i _ (by omega) (by omega)) w).mono ?_
    rintro e w' ⟨rfl, k⟩
    exact ⟨by rw [show doesP [68, 73, 86] (.whole x) (.whole y) = (.none, 101) from by rw [d_div hx hy, ovr_ok _ hy0]; exact fit_out hdiv]; rfl, k⟩
  have Q1 : ∀ w, Calls Try.prog 11 #[.string ⟨#[77, 79, 68]⟩, .iface 42 (.int .i64 x), .iface 42 (.int .i64 y)] w fun e w' => e = .returned (.tuple #[.iface 42 (.int .i64 r), .int .i64 0]) ∧ Bl w w' := fun w => by
    refine (Does_any [77, 79, 68] (by decide) (.whole x) (.whole y) (wf_i _ (by omega) (by omega)) (wf_i _ (by omega) (by omega)) w).mono ?_
    rintro e w' ⟨rfl, k⟩
    exact ⟨by rw [show doesP [77, 79, 68] (.whole x) (.whole y) = ((.whole r), 0) from by rw [d_mod hx hy, ovr_ok _ hy0]; show fitP (x.tmod y) = _; rw [hr, fit_in hrw]]; rfl, k⟩
  have NR := number_whole r hrw
  clear hx hy bx0 bx1 by0 by1 hsum hdiv hy0 hr hrw hrb
  go_enter Try.func5, Try.ntmps5
  go_wp2_with fail
  refine (P0 _).mono ?_
  rintro e w0 ⟨rfl, k0⟩
  go_wp2_with fail
  refine (I0 _).mono ?_
  rintro e w1 ⟨rfl, k1⟩
  have k1 := Bl.on k0 k1
  clear k0
  go_wp2_with fail
  refine (I1 _).mono ?_
  rintro e w2 ⟨rfl, k2⟩
  have k2 := Bl.on k1 k2
  clear k1
  go_wp2_with fail
  refine (Q0 _).mono ?_
  rintro e w3 ⟨rfl, k3⟩
  have k3 := Bl.on k2 k3
  clear k2
  go_wp2_with fail
  refine (Q1 _).mono ?_
  rintro e w4 ⟨rfl, k4⟩
  have k4 := Bl.on k3 k4
  clear k3
  go_wp2_with fail
  refine (number_none _).mono ?_
  rintro e w5 ⟨rfl, k5⟩
  have k5 := Bl.on k4 k5
  clear k4
  go_wp2_with fail
  refine (NR _).mono ?_
  rintro e w6 ⟨rfl, k6⟩
  have k6 := Bl.on k5 k6
  clear k5
  go_wp2_with fail
  refine (D0 _).mono ?_
  rintro e w7 ⟨rfl, k7⟩
  have k7 := Bl.on k6 k7
  clear k6
  go_wp2_with fail
  refine (D1 _).mono ?_
  rintro e w8 ⟨rfl, k8⟩
  have k8 := Bl.on k7 k8
  clear k7
  go_wp2_with fail
  refine (D2 _).mono ?_
  rintro e w9 ⟨rfl, k9⟩
  have k9 := Bl.on k8 k9
  clear k8
  go_wp2_with fail
  refine (D3 _).mono ?_
  rintro e w10 ⟨rfl, k10⟩
  have k10 := Bl.on k9 k10
  clear k9
  go_wp2_with fail
  refine (D4 _).mono ?_
  rintro e w11 ⟨rfl, k11⟩
  have k11 := Bl.on k10 k11
  clear k10
  go_wp2_with fail
  refine (S0 _).mono ?_
  rintro e w12 ⟨rfl, k12⟩
  have k12 := Bl.on k11 k12
  clear k11
  go_wp2_with fail
  refine (S1 _).mono ?_
  rintro e w13 ⟨rfl, k13⟩
  have k13 := Bl.on k12 k13
  clear k12
  go_wp2_with fail
  refine (works_any _).mono ?_
  rintro e w14 ⟨rfl, k14⟩
  have k14 := Bl.on k13 k14
  clear k13
  have KK := Lib.hid k14
  clear k14
  go_wp2_with fail
  go_ret
  exact ⟨rfl, KK.out⟩
theorem back_end (a b s t : Int) (a0 : -2147483648 ≤ a) (a1 : a ≤ 2147483647) (b0 : -2147483648 ≤ b) (b1 : b ≤ 2147483647) (s0 : 0 ≤ s) (s1 : s ≤ 65535) (t0 : 0 ≤ t) (t1 : t ≤ 65535) (W : World) : Calls Try.prog 5 #[.int .i32 a, .int .i32 b, .int .u16 s, .int .u16 t] W fun e w' => e = .returned (.bool true) ∧ Below W.heap.size W w' := by
  have hb : ∀ n : Int, -65536 ≤ n.tmod 65536 ∧ n.tmod 65536 ≤ 65536 := fun n => by
    have h2 : (n.tmod 65536).natAbs < 65536 := by rw [Int.natAbs_tmod]; exact Nat.mod_lt _ (by decide)
    omega
  have hx := hb a
  have hy := hb b
  obtain ⟨x, ex⟩ : ∃ x, a.tmod 65536 = x := ⟨_, rfl⟩
  obtain ⟨y, ey⟩ : ∃ y, b.tmod 65536 = y := ⟨_, rfl⟩
  rw [ex] at hx
  rw [ey] at hy
  have hs : w16 s := ⟨s0, s1⟩
  have ht : w16 t := ⟨t0, t1⟩
  cases wx : inW x
  · exact back_4 a b s t x y ex ey hx hy hs ht wx W
  cases wy : inW y
  · exact back_3 a b s t x y ex ey hx hy hs ht wx wy W
  by_cases h0 : y = 0
  · exact back_2 a b s t x y ex ey hx hy hs ht wx wy (by rw [h0, Int.add_zero]; exact wx) h0 W
  cases ws : inW (x + y) <;> cases wd : inW (x.tdiv y)
  · exact back_1ff a b s t x y ex ey hx hy hs ht wx wy ws h0 wd W
  · exact back_1ft a b s t x y ex ey hx hy hs ht wx wy ws h0 wd W
  · exact back_1tf a b s t x y ex ey hx hy hs ht wx wy ws h0 wd W
  · exact back_1tt a b s t x y ex ey hx hy hs ht wx wy ws h0 wd W
end Go.Proofs.Ytpnohljhpoildaa
