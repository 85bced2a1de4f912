/- Package konst: the known answers. -/
import Derived.Test.YtpnohljhpoildaaKnK
namespace Go.Proofs.Ytpnohljhpoildaa
open Go.RowKit
set_option maxHeartbeats 1000000
set_option maxRecDepth 100000
set_option linter.unusedVariables false
set_option linter.unusedSimpArgs false

theorem LV.eq_self (a : LV) : a.eq a = true := by unfold LV.eq; simp
theorem TV.eq_self (a : TV) : a.eq a = true := by unfold TV.eq; simp
theorem toList_inj {a b : ByteArray} (h : (a.toList == b.toList) = true) : a = b := by
  have h := eq_of_beq h
  rw [ByteArray.toList_eq, ByteArray.toList_eq] at h
  obtain ⟨⟨x⟩⟩ := a
  obtain ⟨⟨y⟩⟩ := b
  have h : x = y := h
  rw [h]
theorem LV.eq_of {a b : LV} (h : a.eq b = true) : a = b := by
  obtain ⟨a0, a1, a2, a3⟩ := a
  obtain ⟨b0, b1, b2, b3⟩ := b
  unfold LV.eq at h
  simp only [Bool.and_eq_true] at h
  obtain ⟨h0, h1, h2, h3⟩ := h
  have h0 : a0 = b0 := by simpa using h0
  have h1 : a1 = b1 := by simpa using h1
  have h3 : a3 = b3 := by simpa using h3
  have h2 : a2 = b2 := toList_inj h2
  rw [h0, h1, h2, h3]
theorem TV.eq_of {a b : TV} (h : a.eq b = true) : a = b := by
  obtain ⟨a0, a1, a2, a3⟩ := a
  obtain ⟨b0, b1, b2, b3⟩ := b
  unfold TV.eq at h
  simp only [Bool.and_eq_true] at h
  obtain ⟨h0, h1, h2, h3⟩ := h
  have h0 : a0 = b0 := by simpa using h0
  have h1 : a1 = b1 := by simpa using h1
  have h3 : a3 = b3 := by simpa using h3
  have h2 : a2 = b2 := toList_inj h2
  rw [h0, h1, h2, h3]
theorem same2_any (a b : PV) (ha : a.wf) (hb : b.wf) (w : World) : Calls Try.prog 16 #[a.val, b.val] w fun e w' => e = .returned (.bool ((tellP a).eq (tellP b))) ∧ Bl w w' := by
  have HA := tell_any a ha
  have HB := tell_any b hb
  have HQ := eqT (tellP a) (tellP b)
  have hgd := grdT
  obtain ⟨av, hav⟩ : ∃ v, a.val = v := ⟨_, rfl⟩
  obtain ⟨bv, hbv⟩ : ∃ v, b.val = v := ⟨_, rfl⟩
  rw [hav] at HA ⊢
  rw [hbv] at HB ⊢
  obtain ⟨r, hr⟩ : ∃ r, (tellP a).eq (tellP b) = r := ⟨_, rfl⟩
  rw [hr] at HQ ⊢
  obtain ⟨x, hx⟩ : ∃ x, tellP a = x := ⟨_, rfl⟩
  obtain ⟨y, hy⟩ : ∃ x, tellP b = x := ⟨_, rfl⟩
  rw [hx] at HA HQ
  rw [hy] at HB HQ
  clear hav hbv hr hx hy ha hb
  obtain ⟨s, t, x, n⟩ := x
  obtain ⟨s2, t2, x2, n2⟩ := y
  unfold TV.val at *
  go_enter Try.func16, Try.ntmps16
  go_wp2_with fail
  refine (HA _).mono ?_
  rintro e w1 ⟨rfl, k1⟩
  go_wp2_with fail
  refine (HB _).mono ?_
  rintro e w2 ⟨rfl, k2⟩
  have K2 := Lib.hid (k1.on k2)
  clear k1 k2
  go_wp2_with fail
  go_ret
  exact ⟨rfl, K2.out⟩
theorem works_any (w : World) : Calls Try.prog 7 #[] w fun e w' => e = .returned (.bool true) ∧ Bl w w' := by
  have D1 : ∀ w, Calls Try.prog 11 #[.string ⟨#[68, 73, 86]⟩, .iface 42 (.int .i64 (-7)), .iface 42 (.int .i64 2)] w fun e w' => e = .returned (.tuple #[.iface 42 (.int .i64 (-3)), .int .i64 0]) ∧ Bl w w' := fun w => by
    refine (Does_any [68, 73, 86] (by decide) (.whole (-7)) (.whole 2) (by unfold PV.wf i64b; omega) (by unfold PV.wf i64b; omega) w).mono ?_
    rintro e w' ⟨rfl, k⟩
    exact ⟨rfl, k⟩
  have D2 : ∀ w, Calls Try.prog 11 #[.string ⟨#[73, 78]⟩, .iface 50 (.int .u8 1), .iface 47 (.int .u16 2)] w fun e w' => e = .returned (.tuple #[.iface 48 (.bool true), .int .i64 0]) ∧ Bl w w' := fun w => by
    refine (Does_any [73, 78] (by decide) (.letter 1) (.bits 2) (by unfold PV.wf; omega) (by unfold PV.wf; omega) w).mono ?_
    rintro e w' ⟨rfl, k⟩
    exact ⟨rfl, k⟩
  have S1 : ∀ w, Calls Try.prog 15 #[.iface 42 (.int .i64 (-3)), .agg #[.int .i64 1, .int .i64 (-3), .string ⟨#[]⟩, .int .i64 0]] w fun e w' => e = .returned (.bool true) ∧ Bl w w' := fun w => by
    refine (same_any (.whole (-3)) (by unfold PV.wf i64b; omega) ⟨1, -3, nilS, 0⟩ w).mono ?_
    rintro e w' ⟨rfl, k⟩
    exact ⟨by rw [show lookP (.whole (-3)) = ⟨1, -3, nilS, 0⟩ from rfl, LV.eq_self], k⟩
  have S2 : ∀ w, Calls Try.prog 15 #[.iface 48 (.bool true), .agg #[.int .i64 3, .int .i64 1, .string ⟨#[]⟩, .int .i64 0]] w fun e w' => e = .returned (.bool true) ∧ Bl w w' := fun w => by
    refine (same_any (.truth true) trivial ⟨3, 1, nilS, 0⟩ w).mono ?_
    rintro e w' ⟨rfl, k⟩
    exact ⟨by rw [show lookP (.truth true) = ⟨3, 1, nilS, 0⟩ from rfl, LV.eq_self], k⟩
  have I1 : ∀ w, Calls Try.prog 17 #[.iface 52 (.agg #[])] w fun e w' => e = .returned (.bool true) ∧ Bl w w' := fun w => by
    refine (is_any .null trivial w).mono ?_
    rintro e w' ⟨rfl, k⟩
    exact ⟨rfl, k⟩
  have I2 : ∀ w, Calls Try.prog 17 #[.nilIface] w fun e w' => e = .returned (.bool false) ∧ Bl w w' := fun w => by
    refine (is_any .none trivial w).mono ?_
    rintro e w' ⟨rfl, k⟩
    exact ⟨rfl, k⟩
  go_enter Try.func7, Try.ntmps7
  go_wp2_with fail
  refine (D1 _).mono ?_
  rintro e w0 ⟨rfl, k0⟩
  go_wp2_with fail
  refine (D2 _).mono ?_
  rintro e w1 ⟨rfl, k1⟩
  have k1 := Bl.on k0 k1
  clear k0
  go_wp2_with fail
  refine (S1 _).mono ?_
  rintro e w2 ⟨rfl, k2⟩
  have k2 := Bl.on k1 k2
  clear k1
  go_wp2_with fail
  refine (S2 _).mono ?_
  rintro e w3 ⟨rfl, k3⟩
  have k3 := Bl.on k2 k3
  clear k2
  go_wp2_with fail
  refine (I1 _).mono ?_
  rintro e w4 ⟨rfl, k4⟩
  have k4 := Bl.on k3 k4
  clear k3
  go_wp2_with fail
  refine (I2 _).mono ?_
  rintro e w5 ⟨rfl, k5⟩
  have k5 := Bl.on k4 k5
  clear k4
  go_wp2_with fail
  refine (panics_null _).mono ?_
  rintro e w6 ⟨rfl, k6⟩
  have k6 := Bl.on k5 k6
  clear k5
  go_wp2_with fail
  refine (panics_whole 3 _).mono ?_
  rintro e w7 ⟨rfl, k7⟩
  have k7 := Bl.on k6 k7
  clear k6
  go_wp2_with fail
  refine (must_is 3 _).mono ?_
  rintro e w9 ⟨rfl, rfl⟩
  have K7 := Lib.hid k7
  clear k7
  go_wp2_with fail
  go_ret
  exact ⟨rfl, K7.out⟩
end Go.Proofs.Ytpnohljhpoildaa
