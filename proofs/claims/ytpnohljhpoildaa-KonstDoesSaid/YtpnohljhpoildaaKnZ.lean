/- The document of layer 10: Does, as far as IN. -/
import Derived.Test.YtpnohljhpoildaaKnY
import Derived.Laws.Bits64
namespace Go.Proofs.Ytpnohljhpoildaa
open Go.RowKit
set_option maxHeartbeats 4000000
set_option maxRecDepth 100000
set_option linter.unusedVariables false
set_option linter.unusedSimpArgs false

theorem two_ne (p : Nat) : p ≠ p + 1 ∧ p + 1 ≠ p := ⟨by omega, by omega⟩
theorem doc_noop (o : List UInt8) (x y : LV) (ho : opB o = false) (w : World) : Calls Try.prog 12 #[.string ⟨o.toArray⟩, x.val, y.val] w (AnsD (zV, 103) w) := by
  have HO := op_d o
  rw [show opB o = false from ho] at HO
  obtain ⟨qs, qn, qx, qt⟩ := x
  obtain ⟨vs, vn, vx, vt⟩ := y
  unfold LV.val at *
  obtain ⟨W3, hW3⟩ : ∃ W3, ((w.alloc (.cells #[.int .i64 qs, .int .i64 qn, .string qx, .int .i64 qt] 29)).alloc (.cells #[.int .i64 vs, .int .i64 vn, .string vx, .int .i64 vt] 29)).alloc (.cells #[.int .i64 0, .int .i64 0, .string ⟨#[]⟩, .int .i64 0] 29) = W3 := ⟨_, rfl⟩
  have hA1 := (Four.new w (.int .i64 qs) (.int .i64 qn) (.string qx) (.int .i64 qt) 29).on ((Below.refl _ _).alloc (Nat.le_refl _) (.cells #[.int .i64 vs, .int .i64 vn, .string vx, .int .i64 vt] 29))
  have hA2 := hA1.on ((Below.refl _ _).alloc (Nat.le_refl _) (.cells #[.int .i64 0, .int .i64 0, .string ⟨#[]⟩, .int .i64 0] 29))
  have hB1 := (Four.new (w.alloc (.cells #[.int .i64 qs, .int .i64 qn, .string qx, .int .i64 qt] 29)) (.int .i64 vs) (.int .i64 vn) (.string vx) (.int .i64 vt) 29).on ((Below.refl _ _).alloc (Nat.le_refl _) (.cells #[.int .i64 0, .int .i64 0, .string ⟨#[]⟩, .int .i64 0] 29))
  have hR1 := Four.new ((w.alloc (.cells #[.int .i64 qs, .int .i64 qn, .string qx, .int .i64 qt] 29)).alloc (.cells #[.int .i64 vs, .int .i64 vn, .string vx, .int .i64 vt] 29)) (.int .i64 0) (.int .i64 0) (.string ⟨#[]⟩) (.int .i64 0) 29
  have hK : Bl w W3 := by rw [← hW3]; exact (((Below.refl _ _).alloc (Nat.le_refl _) _).alloc (by simp) _).alloc (by simp <;> omega) _
  simp only [World.size_alloc] at hA2 hB1 hR1
  rw [hW3] at hA2 hB1 hR1
  obtain ⟨p, hp⟩ : ∃ p, w.heap.size = p := ⟨_, rfl⟩
  rw [hp] at hA2 hB1 hR1
  have HP := Lib.hid hp
  have HA := Lib.hid hA2
  have HB := Lib.hid hB1
  have HR := Lib.hid hR1
  have KW := Lib.hid hK
  have HW3 := Lib.hid (And.intro hW3 hp)
  clear hA1 hA2 hB1 hR1 hK hW3 hp ho
  go_enter Try.func12, Try.ntmps12
  go_wp2_with fail
  rw [show ((w.alloc (.cells #[.int .i64 qs, .int .i64 qn, .string qx, .int .i64 qt] 29)).alloc (.cells #[.int .i64 vs, .int .i64 vn, .string vx, .int .i64 vt] 29)).alloc (.cells #[.int .i64 0, .int .i64 0, .string ⟨#[]⟩, .int .i64 0] 29) = W3 from HW3.out.1]
  try simp only [HW3.out.2]
  clear HW3
  refine (HO _).mono ?_
  rintro e w0 ⟨rfl, k0⟩
  clear HO
  have HA := Lib.hid (HA.out.on k0)
  have HB := Lib.hid (HB.out.on k0)
  have HR := Lib.hid (HR.out.on k0)
  have KW := Lib.hid (KW.out.on k0)
  clear k0
  obtain ⟨a0, a1, a2, a3⟩ := HA.out.c
  obtain ⟨b0, b1, b2, b3⟩ := HB.out.c
  obtain ⟨r0, r1, r2, r3⟩ := HR.out.c
  have af0 := HA.out.f 0
  have af1 := HA.out.f 1
  have af2 := HA.out.f 2
  have af3 := HA.out.f 3
  have bf0 := HB.out.f 0
  have bf1 := HB.out.f 1
  have bf2 := HB.out.f 2
  have bf3 := HB.out.f 3
  have rf0 := HR.out.f 0
  have rf1 := HR.out.f 1
  have rf2 := HR.out.f 2
  have rf3 := HR.out.f 3
  go_wp2_with fail
  refine bodyPost_ret (v := .tuple #[.agg #[.int .i64 0, .int .i64 0, .string ⟨#[]⟩, .int .i64 0], .int .i64 103]) (by simp [results, Try.results12, go_sem, r0, r1, r2, r3]) rfl ⟨rfl, ?_⟩
  have K2 := KW.out
  have hp2 := HP.out
  repeat (first | exact K2 | refine Below.setCell ?_ (by simp <;> omega) _)
theorem doc_x0 (o : List UInt8) (x y : LV) (ho : opB o = true) (h1 : (x.s == 0) = true) (w : World) : Calls Try.prog 12 #[.string ⟨o.toArray⟩, x.val, y.val] w (AnsD (zV, 100) w) := by
  have HO := op_d o
  rw [show opB o = true from ho] at HO
  obtain ⟨qs, qn, qx, qt⟩ := x
  obtain ⟨vs, vn, vx, vt⟩ := y
  unfold LV.val at *
  obtain ⟨W3, hW3⟩ : ∃ W3, ((w.alloc (.cells #[.int .i64 qs, .int .i64 qn, .string qx, .int .i64 qt] 29)).alloc (.cells #[.int .i64 vs, .int .i64 vn, .string vx, .int .i64 vt] 29)).alloc (.cells #[.int .i64 0, .int .i64 0, .string ⟨#[]⟩, .int .i64 0] 29) = W3 := ⟨_, rfl⟩
  have hA1 := (Four.new w (.int .i64 qs) (.int .i64 qn) (.string qx) (.int .i64 qt) 29).on ((Below.refl _ _).alloc (Nat.le_refl _) (.cells #[.int .i64 vs, .int .i64 vn, .string vx, .int .i64 vt] 29))
  have hA2 := hA1.on ((Below.refl _ _).alloc (Nat.le_refl _) (.cells #[.int .i64 0, .int .i64 0, .string ⟨#[]⟩, .int .i64 0] 29))
  have hB1 := (Four.new (w.alloc (.cells #[.int .i64 qs, .int .i64 qn, .string qx, .int .i64 qt] 29)) (.int .i64 vs) (.int .i64 vn) (.string vx) (.int .i64 vt) 29).on ((Below.refl _ _).alloc (Nat.le_refl _) (.cells #[.int .i64 0, .int .i64 0, .string ⟨#[]⟩, .int .i64 0] 29))
  have hR1 := Four.new ((w.alloc (.cells #[.int .i64 qs, .int .i64 qn, .string qx, .int .i64 qt] 29)).alloc (.cells #[.int .i64 vs, .int .i64 vn, .string vx, .int .i64 vt] 29)) (.int .i64 0) (.int .i64 0) (.string ⟨#[]⟩) (.int .i64 0) 29
  have hK : Bl w W3 := by rw [← hW3]; exact (((Below.refl _ _).alloc (Nat.le_refl _) _).alloc (by simp) _).alloc (by simp <;> omega) _
  simp only [World.size_alloc] at hA2 hB1 hR1
  rw [hW3] at hA2 hB1 hR1
  obtain ⟨p, hp⟩ : ∃ p, w.heap.size = p := ⟨_, rfl⟩
  rw [hp] at hA2 hB1 hR1
  have HP := Lib.hid hp
  have HA := Lib.hid hA2
  have HB := Lib.hid hB1
  have HR := Lib.hid hR1
  have KW := Lib.hid hK
  have HW3 := Lib.hid (And.intro hW3 hp)
  clear hA1 hA2 hB1 hR1 hK hW3 hp ho
  go_enter Try.func12, Try.ntmps12
  go_wp2_with fail
  rw [show ((w.alloc (.cells #[.int .i64 qs, .int .i64 qn, .string qx, .int .i64 qt] 29)).alloc (.cells #[.int .i64 vs, .int .i64 vn, .string vx, .int .i64 vt] 29)).alloc (.cells #[.int .i64 0, .int .i64 0, .string ⟨#[]⟩, .int .i64 0] 29) = W3 from HW3.out.1]
  try simp only [HW3.out.2]
  clear HW3
  refine (HO _).mono ?_
  rintro e w0 ⟨rfl, k0⟩
  clear HO
  have HA := Lib.hid (HA.out.on k0)
  have HB := Lib.hid (HB.out.on k0)
  have HR := Lib.hid (HR.out.on k0)
  have KW := Lib.hid (KW.out.on k0)
  clear k0
  obtain ⟨a0, a1, a2, a3⟩ := HA.out.c
  obtain ⟨b0, b1, b2, b3⟩ := HB.out.c
  obtain ⟨r0, r1, r2, r3⟩ := HR.out.c
  have af0 := HA.out.f 0
  have af1 := HA.out.f 1
  have af2 := HA.out.f 2
  have af3 := HA.out.f 3
  have bf0 := HB.out.f 0
  have bf1 := HB.out.f 1
  have bf2 := HB.out.f 2
  have bf3 := HB.out.f 3
  have rf0 := HR.out.f 0
  have rf1 := HR.out.f 1
  have rf2 := HR.out.f 2
  have rf3 := HR.out.f 3
  try simp only at h1
  go_wp2_with fail
  refine bodyPost_ret (v := .tuple #[.agg #[.int .i64 0, .int .i64 0, .string ⟨#[]⟩, .int .i64 0], .int .i64 100]) (by simp [results, Try.results12, go_sem, r0, r1, r2, r3]) rfl ⟨rfl, ?_⟩
  have K2 := KW.out
  have hp2 := HP.out
  repeat (first | exact K2 | refine Below.setCell ?_ (by simp <;> omega) _)
theorem doc_y0 (o : List UInt8) (x y : LV) (ho : opB o = true) (h1 : (x.s == 0) = false) (h2 : (y.s == 0) = true) (w : World) : Calls Try.prog 12 #[.string ⟨o.toArray⟩, x.val, y.val] w (AnsD (zV, 100) w) := by
  have HO := op_d o
  rw [show opB o = true from ho] at HO
  obtain ⟨qs, qn, qx, qt⟩ := x
  obtain ⟨vs, vn, vx, vt⟩ := y
  unfold LV.val at *
  obtain ⟨W3, hW3⟩ : ∃ W3, ((w.alloc (.cells #[.int .i64 qs, .int .i64 qn, .string qx, .int .i64 qt] 29)).alloc (.cells #[.int .i64 vs, .int .i64 vn, .string vx, .int .i64 vt] 29)).alloc (.cells #[.int .i64 0, .int .i64 0, .string ⟨#[]⟩, .int .i64 0] 29) = W3 := ⟨_, rfl⟩
  have hA1 := (Four.new w (.int .i64 qs) (.int .i64 qn) (.string qx) (.int .i64 qt) 29).on ((Below.refl _ _).alloc (Nat.le_refl _) (.cells #[.int .i64 vs, .int .i64 vn, .string vx, .int .i64 vt] 29))
  have hA2 := hA1.on ((Below.refl _ _).alloc (Nat.le_refl _) (.cells #[.int .i64 0, .int .i64 0, .string ⟨#[]⟩, .int .i64 0] 29))
  have hB1 := (Four.new (w.alloc (.cells #[.int .i64 qs, .int .i64 qn, .string qx, .int .i64 qt] 29)) (.int .i64 vs) (.int .i64 vn) (.string vx) (.int .i64 vt) 29).on ((Below.refl _ _).alloc (Nat.le_refl _) (.cells #[.int .i64 0, .int .i64 0, .string ⟨#[]⟩, .int .i64 0] 29))
  have hR1 := Four.new ((w.alloc (.cells #[.int .i64 qs, .int .i64 qn, .string qx, .int .i64 qt] 29)).alloc (.cells #[.int .i64 vs, .int .i64 vn, .string vx, .int .i64 vt] 29)) (.int .i64 0) (.int .i64 0) (.string ⟨#[]⟩) (.int .i64 0) 29
  have hK : Bl w W3 := by rw [← hW3]; exact (((Below.refl _ _).alloc (Nat.le_refl _) _).alloc (by simp) _).alloc (by simp <;> omega) _
  simp only [World.size_alloc] at hA2 hB1 hR1
  rw [hW3] at hA2 hB1 hR1
  obtain ⟨p, hp⟩ : ∃ p, w.heap.size = p := ⟨_, rfl⟩
  rw [hp] at hA2 hB1 hR1
  have HP := Lib.hid hp
  have HA := Lib.hid hA2
  have HB := Lib.hid hB1
  have HR := Lib.hid hR1
  have KW := Lib.hid hK
  have HW3 := Lib.hid (And.intro hW3 hp)
  clear hA1 hA2 hB1 hR1 hK hW3 hp ho
  go_enter Try.func12, Try.ntmps12
  go_wp2_with fail
  rw [show ((w.alloc (.cells #[.int .i64 qs, .int .i64 qn, .string qx, .int .i64 qt] 29)).alloc (.cells #[.int .i64 vs, .int .i64 vn, .string vx, .int .i64 vt] 29)).alloc (.cells #[.int .i64 0, .int .i64 0, .string ⟨#[]⟩, .int .i64 0] 29) = W3 from HW3.out.1]
  try simp only [HW3.out.2]
  clear HW3
  refine (HO _).mono ?_
  rintro e w0 ⟨rfl, k0⟩
  clear HO
  have HA := Lib.hid (HA.out.on k0)
  have HB := Lib.hid (HB.out.on k0)
  have HR := Lib.hid (HR.out.on k0)
  have KW := Lib.hid (KW.out.on k0)
  clear k0
  obtain ⟨a0, a1, a2, a3⟩ := HA.out.c
  obtain ⟨b0, b1, b2, b3⟩ := HB.out.c
  obtain ⟨r0, r1, r2, r3⟩ := HR.out.c
  have af0 := HA.out.f 0
  have af1 := HA.out.f 1
  have af2 := HA.out.f 2
  have af3 := HA.out.f 3
  have bf0 := HB.out.f 0
  have bf1 := HB.out.f 1
  have bf2 := HB.out.f 2
  have bf3 := HB.out.f 3
  have rf0 := HR.out.f 0
  have rf1 := HR.out.f 1
  have rf2 := HR.out.f 2
  have rf3 := HR.out.f 3
  try simp only at h1 h2
  go_wp2_with fail
  refine bodyPost_ret (v := .tuple #[.agg #[.int .i64 0, .int .i64 0, .string ⟨#[]⟩, .int .i64 0], .int .i64 100]) (by simp [results, Try.results12, go_sem, r0, r1, r2, r3]) rfl ⟨rfl, ?_⟩
  have K2 := KW.out
  have hp2 := HP.out
  repeat (first | exact K2 | refine Below.setCell ?_ (by simp <;> omega) _)
theorem doc_in_f  (x y : LV) (ho : opB [73, 78] = true) (h1 : (x.s == 0) = false) (h2 : (y.s == 0) = false) (hh : hasD x = false) (w : World) : Calls Try.prog 12 #[.string ⟨#[73, 78]⟩, x.val, y.val] w (AnsD (zV, 100) w) := by
  have HO := op_d [73, 78]
  rw [show opB [73, 78] = true from ho] at HO
  have HH := has_any x
  rw [hh] at HH
  clear hh
  obtain ⟨qs, qn, qx, qt⟩ := x
  obtain ⟨vs, vn, vx, vt⟩ := y
  unfold LV.val at *
  obtain ⟨W3, hW3⟩ : ∃ W3, ((w.alloc (.cells #[.int .i64 qs, .int .i64 qn, .string qx, .int .i64 qt] 29)).alloc (.cells #[.int .i64 vs, .int .i64 vn, .string vx, .int .i64 vt] 29)).alloc (.cells #[.int .i64 0, .int .i64 0, .string ⟨#[]⟩, .int .i64 0] 29) = W3 := ⟨_, rfl⟩
  have hA1 := (Four.new w (.int .i64 qs) (.int .i64 qn) (.string qx) (.int .i64 qt) 29).on ((Below.refl _ _).alloc (Nat.le_refl _) (.cells #[.int .i64 vs, .int .i64 vn, .string vx, .int .i64 vt] 29))
  have hA2 := hA1.on ((Below.refl _ _).alloc (Nat.le_refl _) (.cells #[.int .i64 0, .int .i64 0, .string ⟨#[]⟩, .int .i64 0] 29))
  have hB1 := (Four.new (w.alloc (.cells #[.int .i64 qs, .int .i64 qn, .string qx, .int .i64 qt] 29)) (.int .i64 vs) (.int .i64 vn) (.string vx) (.int .i64 vt) 29).on ((Below.refl _ _).alloc (Nat.le_refl _) (.cells #[.int .i64 0, .int .i64 0, .string ⟨#[]⟩, .int .i64 0] 29))
  have hR1 := Four.new ((w.alloc (.cells #[.int .i64 qs, .int .i64 qn, .string qx, .int .i64 qt] 29)).alloc (.cells #[.int .i64 vs, .int .i64 vn, .string vx, .int .i64 vt] 29)) (.int .i64 0) (.int .i64 0) (.string ⟨#[]⟩) (.int .i64 0) 29
  have hK : Bl w W3 := by rw [← hW3]; exact (((Below.refl _ _).alloc (Nat.le_refl _) _).alloc (by simp) _).alloc (by simp <;> omega) _
  simp only [World.size_alloc] at hA2 hB1 hR1
  rw [hW3] at hA2 hB1 hR1
  obtain ⟨p, hp⟩ : ∃ p, w.heap.size = p := ⟨_, rfl⟩
  rw [hp] at hA2 hB1 hR1
  have HP := Lib.hid hp
  have HA := Lib.hid hA2
  have HB := Lib.hid hB1
  have HR := Lib.hid hR1
  have KW := Lib.hid hK
  have HW3 := Lib.hid (And.intro hW3 hp)
  clear hA1 hA2 hB1 hR1 hK hW3 hp ho
  go_enter Try.func12, Try.ntmps12
  go_wp2_with fail
  rw [show ((w.alloc (.cells #[.int .i64 qs, .int .i64 qn, .string qx, .int .i64 qt] 29)).alloc (.cells #[.int .i64 vs, .int .i64 vn, .string vx, .int .i64 vt] 29)).alloc (.cells #[.int .i64 0, .int .i64 0, .string ⟨#[]⟩, .int .i64 0] 29) = W3 from HW3.out.1]
  try simp only [HW3.out.2]
  clear HW3
  refine (HO _).mono ?_
  rintro e w0 ⟨rfl, k0⟩
  clear HO
  have HA := Lib.hid (HA.out.on k0)
  have HB := Lib.hid (HB.out.on k0)
  have HR := Lib.hid (HR.out.on k0)
  have KW := Lib.hid (KW.out.on k0)
  clear k0
  obtain ⟨a0, a1, a2, a3⟩ := HA.out.c
  obtain ⟨b0, b1, b2, b3⟩ := HB.out.c
  obtain ⟨r0, r1, r2, r3⟩ := HR.out.c
  have af0 := HA.out.f 0
  have af1 := HA.out.f 1
  have af2 := HA.out.f 2
  have af3 := HA.out.f 3
  have bf0 := HB.out.f 0
  have bf1 := HB.out.f 1
  have bf2 := HB.out.f 2
  have bf3 := HB.out.f 3
  have rf0 := HR.out.f 0
  have rf1 := HR.out.f 1
  have rf2 := HR.out.f 2
  have rf3 := HR.out.f 3
  try simp only at h1 h2
  go_wp2_with fail
  refine (HH _).mono ?_
  rintro e w1 ⟨rfl, k1⟩
  clear a0 a1 a2 a3 b0 b1 b2 b3 r0 r1 r2 r3 af0 af1 af2 af3 bf0 bf1 bf2 bf3 rf0 rf1 rf2 rf3
  have HA := Lib.hid (HA.out.on k1)
  have HB := Lib.hid (HB.out.on k1)
  have HR := Lib.hid (HR.out.on k1)
  have KW := Lib.hid (KW.out.on k1)
  clear k1
  obtain ⟨a0, a1, a2, a3⟩ := HA.out.c
  obtain ⟨b0, b1, b2, b3⟩ := HB.out.c
  obtain ⟨r0, r1, r2, r3⟩ := HR.out.c
  have af0 := HA.out.f 0
  have af1 := HA.out.f 1
  have af2 := HA.out.f 2
  have af3 := HA.out.f 3
  have bf0 := HB.out.f 0
  have bf1 := HB.out.f 1
  have bf2 := HB.out.f 2
  have bf3 := HB.out.f 3
  have rf0 := HR.out.f 0
  have rf1 := HR.out.f 1
  have rf2 := HR.out.f 2
  have rf3 := HR.out.f 3
  go_wp2_with fail
  refine bodyPost_ret (v := .tuple #[.agg #[.int .i64 0, .int .i64 0, .string ⟨#[]⟩, .int .i64 0], .int .i64 100]) (by simp [results, Try.results12, go_sem, r0, r1, r2, r3]) rfl ⟨rfl, ?_⟩
  have K2 := KW.out
  have hp2 := HP.out
  repeat (first | exact K2 | refine Below.setCell ?_ (by simp <;> omega) _)
theorem doc_in_n  (x y : LV) (ho : opB [73, 78] = true) (h1 : (x.s == 0) = false) (h2 : (y.s == 0) = false) (hh : hasD x = true) (h4 : (y.s != 4) = true) (w : World) : Calls Try.prog 12 #[.string ⟨#[73, 78]⟩, x.val, y.val] w (AnsD (zV, 100) w) := by
  have HO := op_d [73, 78]
  rw [show opB [73, 78] = true from ho] at HO
  have HH := has_any x
  rw [hh] at HH
  clear hh
  obtain ⟨qs, qn, qx, qt⟩ := x
  obtain ⟨vs, vn, vx, vt⟩ := y
  unfold LV.val at *
  obtain ⟨W3, hW3⟩ : ∃ W3, ((w.alloc (.cells #[.int .i64 qs, .int .i64 qn, .string qx, .int .i64 qt] 29)).alloc (.cells #[.int .i64 vs, .int .i64 vn, .string vx, .int .i64 vt] 29)).alloc (.cells #[.int .i64 0, .int .i64 0, .string ⟨#[]⟩, .int .i64 0] 29) = W3 := ⟨_, rfl⟩
  have hA1 := (Four.new w (.int .i64 qs) (.int .i64 qn) (.string qx) (.int .i64 qt) 29).on ((Below.refl _ _).alloc (Nat.le_refl _) (.cells #[.int .i64 vs, .int .i64 vn, .string vx, .int .i64 vt] 29))
  have hA2 := hA1.on ((Below.refl _ _).alloc (Nat.le_refl _) (.cells #[.int .i64 0, .int .i64 0, .string ⟨#[]⟩, .int .i64 0] 29))
  have hB1 := (Four.new (w.alloc (.cells #[.int .i64 qs, .int .i64 qn, .string qx, .int .i64 qt] 29)) (.int .i64 vs) (.int .i64 vn) (.string vx) (.int .i64 vt) 29).on ((Below.refl _ _).alloc (Nat.le_refl _) (.cells #[.int .i64 0, .int .i64 0, .string ⟨#[]⟩, .int .i64 0] 29))
  have hR1 := Four.new ((w.alloc (.cells #[.int .i64 qs, .int .i64 qn, .string qx, .int .i64 qt] 29)).alloc (.cells #[.int .i64 vs, .int .i64 vn, .string vx, .int .i64 vt] 29)) (.int .i64 0) (.int .i64 0) (.string ⟨#[]⟩) (.int .i64 0) 29
  have hK : Bl w W3 := by rw [← hW3]; exact (((Below.refl _ _).alloc (Nat.le_refl _) _).alloc (by simp) _).alloc (by simp <;> omega) _
  simp only [World.size_alloc] at hA2 hB1 hR1
  rw [hW3] at hA2 hB1 hR1
  obtain ⟨p, hp⟩ : ∃ p, w.heap.size = p := ⟨_, rfl⟩
  rw [hp] at hA2 hB1 hR1
  have HP := Lib.hid hp
  have HA := Lib.hid hA2
  have HB := Lib.hid hB1
  have HR := Lib.hid hR1
  have KW := Lib.hid hK
  have HW3 := Lib.hid (And.intro hW3 hp)
  clear hA1 hA2 hB1 hR1 hK hW3 hp ho
  go_enter Try.func12, Try.ntmps12
  go_wp2_with fail
  rw [show ((w.alloc (.cells #[.int .i64 qs, .int .i64 qn, .string qx, .int .i64 qt] 29)).alloc (.cells #[.int .i64 vs, .int .i64 vn, .string vx, .int .i64 vt] 29)).alloc (.cells #[.int .i64 0, .int .i64 0, .string ⟨#[]⟩, .int .i64 0] 29) = W3 from HW3.out.1]
  try simp only [HW3.out.2]
  clear HW3
  refine (HO _).mono ?_
  rintro e w0 ⟨rfl, k0⟩
  clear HO
  have HA := Lib.hid (HA.out.on k0)
  have HB := Lib.hid (HB.out.on k0)
  have HR := Lib.hid (HR.out.on k0)
  have KW := Lib.hid (KW.out.on k0)
  clear k0
  obtain ⟨a0, a1, a2, a3⟩ := HA.out.c
  obtain ⟨b0, b1, b2, b3⟩ := HB.out.c
  obtain ⟨r0, r1, r2, r3⟩ := HR.out.c
  have af0 := HA.out.f 0
  have af1 := HA.out.f 1
  have af2 := HA.out.f 2
  have af3 := HA.out.f 3
  have bf0 := HB.out.f 0
  have bf1 := HB.out.f 1
  have bf2 := HB.out.f 2
  have bf3 := HB.out.f 3
  have rf0 := HR.out.f 0
  have rf1 := HR.out.f 1
  have rf2 := HR.out.f 2
  have rf3 := HR.out.f 3
  try simp only at h1 h2 h4
  go_wp2_with fail
  refine (HH _).mono ?_
  rintro e w1 ⟨rfl, k1⟩
  clear a0 a1 a2 a3 b0 b1 b2 b3 r0 r1 r2 r3 af0 af1 af2 af3 bf0 bf1 bf2 bf3 rf0 rf1 rf2 rf3
  have HA := Lib.hid (HA.out.on k1)
  have HB := Lib.hid (HB.out.on k1)
  have HR := Lib.hid (HR.out.on k1)
  have KW := Lib.hid (KW.out.on k1)
  clear k1
  obtain ⟨a0, a1, a2, a3⟩ := HA.out.c
  obtain ⟨b0, b1, b2, b3⟩ := HB.out.c
  obtain ⟨r0, r1, r2, r3⟩ := HR.out.c
  have af0 := HA.out.f 0
  have af1 := HA.out.f 1
  have af2 := HA.out.f 2
  have af3 := HA.out.f 3
  have bf0 := HB.out.f 0
  have bf1 := HB.out.f 1
  have bf2 := HB.out.f 2
  have bf3 := HB.out.f 3
  have rf0 := HR.out.f 0
  have rf1 := HR.out.f 1
  have rf2 := HR.out.f 2
  have rf3 := HR.out.f 3
  go_wp2_with fail
  refine bodyPost_ret (v := .tuple #[.agg #[.int .i64 0, .int .i64 0, .string ⟨#[]⟩, .int .i64 0], .int .i64 100]) (by simp [results, Try.results12, go_sem, r0, r1, r2, r3]) rfl ⟨rfl, ?_⟩
  have K2 := KW.out
  have hp2 := HP.out
  repeat (first | exact K2 | refine Below.setCell ?_ (by simp <;> omega) _)
theorem doc_in_neg  (x y : LV) (ho : opB [73, 78] = true) (h1 : (x.s == 0) = false) (h2 : (y.s == 0) = false) (hh : hasD x = true) (h4 : (y.s != 4) = false) (hr : numD x < 0) (w : World) : Calls Try.prog 12 #[.string ⟨#[73, 78]⟩, x.val, y.val] w (AnsD (truD false, 0) w) := by
  have HO := op_d [73, 78]
  rw [show opB [73, 78] = true from ho] at HO
  have HH := has_any x
  rw [hh] at HH
  have HN := number_d x
  obtain ⟨n, hn⟩ : ∃ n, numD x = n := ⟨_, rfl⟩
  rw [hn] at HN hr
  clear hn
  have HT := truth_d false
  obtain ⟨tv, ht⟩ : ∃ t, truD false = t := ⟨_, rfl⟩
  rw [ht] at HT ⊢
  clear ht
  obtain ⟨ts, tn, tx, tt⟩ := tv
  clear hh
  obtain ⟨qs, qn, qx, qt⟩ := x
  obtain ⟨vs, vn, vx, vt⟩ := y
  unfold LV.val at *
  obtain ⟨W3, hW3⟩ : ∃ W3, ((w.alloc (.cells #[.int .i64 qs, .int .i64 qn, .string qx, .int .i64 qt] 29)).alloc (.cells #[.int .i64 vs, .int .i64 vn, .string vx, .int .i64 vt] 29)).alloc (.cells #[.int .i64 0, .int .i64 0, .string ⟨#[]⟩, .int .i64 0] 29) = W3 := ⟨_, rfl⟩
  have hA1 := (Four.new w (.int .i64 qs) (.int .i64 qn) (.string qx) (.int .i64 qt) 29).on ((Below.refl _ _).alloc (Nat.le_refl _) (.cells #[.int .i64 vs, .int .i64 vn, .string vx, .int .i64 vt] 29))
  have hA2 := hA1.on ((Below.refl _ _).alloc (Nat.le_refl _) (.cells #[.int .i64 0, .int .i64 0, .string ⟨#[]⟩, .int .i64 0] 29))
  have hB1 := (Four.new (w.alloc (.cells #[.int .i64 qs, .int .i64 qn, .string qx, .int .i64 qt] 29)) (.int .i64 vs) (.int .i64 vn) (.string vx) (.int .i64 vt) 29).on ((Below.refl _ _).alloc (Nat.le_refl _) (.cells #[.int .i64 0, .int .i64 0, .string ⟨#[]⟩, .int .i64 0] 29))
  have hR1 := Four.new ((w.alloc (.cells #[.int .i64 qs, .int .i64 qn, .string qx, .int .i64 qt] 29)).alloc (.cells #[.int .i64 vs, .int .i64 vn, .string vx, .int .i64 vt] 29)) (.int .i64 0) (.int .i64 0) (.string ⟨#[]⟩) (.int .i64 0) 29
  have hK : Bl w W3 := by rw [← hW3]; exact (((Below.refl _ _).alloc (Nat.le_refl _) _).alloc (by simp) _).alloc (by simp <;> omega) _
  simp only [World.size_alloc] at hA2 hB1 hR1
  rw [hW3] at hA2 hB1 hR1
  obtain ⟨p, hp⟩ : ∃ p, w.heap.size = p := ⟨_, rfl⟩
  rw [hp] at hA2 hB1 hR1
  have HP := Lib.hid hp
  have HA := Lib.hid hA2
  have HB := Lib.hid hB1
  have HR := Lib.hid hR1
  have KW := Lib.hid hK
  have HW3 := Lib.hid (And.intro hW3 hp)
  clear hA1 hA2 hB1 hR1 hK hW3 hp ho
  go_enter Try.func12, Try.ntmps12
  go_wp2_with fail
  rw [show ((w.alloc (.cells #[.int .i64 qs, .int .i64 qn, .string qx, .int .i64 qt] 29)).alloc (.cells #[.int .i64 vs, .int .i64 vn, .string vx, .int .i64 vt] 29)).alloc (.cells #[.int .i64 0, .int .i64 0, .string ⟨#[]⟩, .int .i64 0] 29) = W3 from HW3.out.1]
  try simp only [HW3.out.2]
  clear HW3
  refine (HO _).mono ?_
  rintro e w0 ⟨rfl, k0⟩
  clear HO
  have HA := Lib.hid (HA.out.on k0)
  have HB := Lib.hid (HB.out.on k0)
  have HR := Lib.hid (HR.out.on k0)
  have KW := Lib.hid (KW.out.on k0)
  clear k0
  obtain ⟨a0, a1, a2, a3⟩ := HA.out.c
  obtain ⟨b0, b1, b2, b3⟩ := HB.out.c
  obtain ⟨r0, r1, r2, r3⟩ := HR.out.c
  have af0 := HA.out.f 0
  have af1 := HA.out.f 1
  have af2 := HA.out.f 2
  have af3 := HA.out.f 3
  have bf0 := HB.out.f 0
  have bf1 := HB.out.f 1
  have bf2 := HB.out.f 2
  have bf3 := HB.out.f 3
  have rf0 := HR.out.f 0
  have rf1 := HR.out.f 1
  have rf2 := HR.out.f 2
  have rf3 := HR.out.f 3
  try simp only at h1 h2 h4
  have hn1 : ¬ 0 ≤ n := by omega
  go_wp2_with fail
  refine (HH _).mono ?_
  rintro e w1 ⟨rfl, k1⟩
  clear a0 a1 a2 a3 b0 b1 b2 b3 r0 r1 r2 r3 af0 af1 af2 af3 bf0 bf1 bf2 bf3 rf0 rf1 rf2 rf3
  have HA := Lib.hid (HA.out.on k1)
  have HB := Lib.hid (HB.out.on k1)
  have HR := Lib.hid (HR.out.on k1)
  have KW := Lib.hid (KW.out.on k1)
  clear k1
  obtain ⟨a0, a1, a2, a3⟩ := HA.out.c
  obtain ⟨b0, b1, b2, b3⟩ := HB.out.c
  obtain ⟨r0, r1, r2, r3⟩ := HR.out.c
  have af0 := HA.out.f 0
  have af1 := HA.out.f 1
  have af2 := HA.out.f 2
  have af3 := HA.out.f 3
  have bf0 := HB.out.f 0
  have bf1 := HB.out.f 1
  have bf2 := HB.out.f 2
  have bf3 := HB.out.f 3
  have rf0 := HR.out.f 0
  have rf1 := HR.out.f 1
  have rf2 := HR.out.f 2
  have rf3 := HR.out.f 3
  go_wp2_with fail
  refine (HN _).mono ?_
  rintro e w2 ⟨rfl, k2⟩
  clear a0 a1 a2 a3 b0 b1 b2 b3 r0 r1 r2 r3 af0 af1 af2 af3 bf0 bf1 bf2 bf3 rf0 rf1 rf2 rf3
  have HA := Lib.hid (HA.out.on k2)
  have HB := Lib.hid (HB.out.on k2)
  have HR := Lib.hid (HR.out.on k2)
  have KW := Lib.hid (KW.out.on k2)
  clear k2
  obtain ⟨a0, a1, a2, a3⟩ := HA.out.c
  obtain ⟨b0, b1, b2, b3⟩ := HB.out.c
  obtain ⟨r0, r1, r2, r3⟩ := HR.out.c
  have af0 := HA.out.f 0
  have af1 := HA.out.f 1
  have af2 := HA.out.f 2
  have af3 := HA.out.f 3
  have bf0 := HB.out.f 0
  have bf1 := HB.out.f 1
  have bf2 := HB.out.f 2
  have bf3 := HB.out.f 3
  have rf0 := HR.out.f 0
  have rf1 := HR.out.f 1
  have rf2 := HR.out.f 2
  have rf3 := HR.out.f 3
  go_wp2_with fail
  refine (HT _).mono ?_
  rintro e w3 ⟨rfl, k3⟩
  clear a0 a1 a2 a3 b0 b1 b2 b3 r0 r1 r2 r3 af0 af1 af2 af3 bf0 bf1 bf2 bf3 rf0 rf1 rf2 rf3
  have HA := Lib.hid (HA.out.on k3)
  have HB := Lib.hid (HB.out.on k3)
  have HR := Lib.hid (HR.out.on k3)
  have KW := Lib.hid (KW.out.on k3)
  clear k3
  obtain ⟨a0, a1, a2, a3⟩ := HA.out.c
  obtain ⟨b0, b1, b2, b3⟩ := HB.out.c
  obtain ⟨r0, r1, r2, r3⟩ := HR.out.c
  have af0 := HA.out.f 0
  have af1 := HA.out.f 1
  have af2 := HA.out.f 2
  have af3 := HA.out.f 3
  have bf0 := HB.out.f 0
  have bf1 := HB.out.f 1
  have bf2 := HB.out.f 2
  have bf3 := HB.out.f 3
  have rf0 := HR.out.f 0
  have rf1 := HR.out.f 1
  have rf2 := HR.out.f 2
  have rf3 := HR.out.f 3
  go_wp2_with fail
  refine bodyPost_ret (v := .tuple #[.agg #[.int .i64 ts, .int .i64 tn, .string tx, .int .i64 tt], .int .i64 0]) (by simp [results, Try.results12, go_sem, r0, r1, r2, r3]) rfl ⟨rfl, ?_⟩
  have K2 := KW.out
  have hp2 := HP.out
  repeat (first | exact K2 | refine Below.setCell ?_ (by simp <;> omega) _)
theorem doc_in_big  (x y : LV) (ho : opB [73, 78] = true) (h1 : (x.s == 0) = false) (h2 : (y.s == 0) = false) (hh : hasD x = true) (h4 : (y.s != 4) = false) (hr : 16 ≤ numD x) (w : World) : Calls Try.prog 12 #[.string ⟨#[73, 78]⟩, x.val, y.val] w (AnsD (truD false, 0) w) := by
  have HO := op_d [73, 78]
  rw [show opB [73, 78] = true from ho] at HO
  have HH := has_any x
  rw [hh] at HH
  have HN := number_d x
  obtain ⟨n, hn⟩ : ∃ n, numD x = n := ⟨_, rfl⟩
  rw [hn] at HN hr
  clear hn
  have HT := truth_d false
  obtain ⟨tv, ht⟩ : ∃ t, truD false = t := ⟨_, rfl⟩
  rw [ht] at HT ⊢
  clear ht
  obtain ⟨ts, tn, tx, tt⟩ := tv
  clear hh
  obtain ⟨qs, qn, qx, qt⟩ := x
  obtain ⟨vs, vn, vx, vt⟩ := y
  unfold LV.val at *
  obtain ⟨W3, hW3⟩ : ∃ W3, ((w.alloc (.cells #[.int .i64 qs, .int .i64 qn, .string qx, .int .i64 qt] 29)).alloc (.cells #[.int .i64 vs, .int .i64 vn, .string vx, .int .i64 vt] 29)).alloc (.cells #[.int .i64 0, .int .i64 0, .string ⟨#[]⟩, .int .i64 0] 29) = W3 := ⟨_, rfl⟩
  have hA1 := (Four.new w (.int .i64 qs) (.int .i64 qn) (.string qx) (.int .i64 qt) 29).on ((Below.refl _ _).alloc (Nat.le_refl _) (.cells #[.int .i64 vs, .int .i64 vn, .string vx, .int .i64 vt] 29))
  have hA2 := hA1.on ((Below.refl _ _).alloc (Nat.le_refl _) (.cells #[.int .i64 0, .int .i64 0, .string ⟨#[]⟩, .int .i64 0] 29))
  have hB1 := (Four.new (w.alloc (.cells #[.int .i64 qs, .int .i64 qn, .string qx, .int .i64 qt] 29)) (.int .i64 vs) (.int .i64 vn) (.string vx) (.int .i64 vt) 29).on ((Below.refl _ _).alloc (Nat.le_refl _) (.cells #[.int .i64 0, .int .i64 0, .string ⟨#[]⟩, .int .i64 0] 29))
  have hR1 := Four.new ((w.alloc (.cells #[.int .i64 qs, .int .i64 qn, .string qx, .int .i64 qt] 29)).alloc (.cells #[.int .i64 vs, .int .i64 vn, .string vx, .int .i64 vt] 29)) (.int .i64 0) (.int .i64 0) (.string ⟨#[]⟩) (.int .i64 0) 29
  have hK : Bl w W3 := by rw [← hW3]; exact (((Below.refl _ _).alloc (Nat.le_refl _) _).alloc (by simp) _).alloc (by simp <;> omega) _
  simp only [World.size_alloc] at hA2 hB1 hR1
  rw [hW3] at hA2 hB1 hR1
  obtain ⟨p, hp⟩ : ∃ p, w.heap.size = p := ⟨_, rfl⟩
  rw [hp] at hA2 hB1 hR1
  have HP := Lib.hid hp
  have HA := Lib.hid hA2
  have HB := Lib.hid hB1
  have HR := Lib.hid hR1
  have KW := Lib.hid hK
  have HW3 := Lib.hid (And.intro hW3 hp)
  clear hA1 hA2 hB1 hR1 hK hW3 hp ho
  go_enter Try.func12, Try.ntmps12
  go_wp2_with fail
  rw [show ((w.alloc (.cells #[.int .i64 qs, .int .i64 qn, .string qx, .int .i64 qt] 29)).alloc (.cells #[.int .i64 vs, .int .i64 vn, .string vx, .int .i64 vt] 29)).alloc (.cells #[.int .i64 0, .int .i64 0, .string ⟨#[]⟩, .int .i64 0] 29) = W3 from HW3.out.1]
  try simp only [HW3.out.2]
  clear HW3
  refine (HO _).mono ?_
  rintro e w0 ⟨rfl, k0⟩
  clear HO
  have HA := Lib.hid (HA.out.on k0)
  have HB := Lib.hid (HB.out.on k0)
  have HR := Lib.hid (HR.out.on k0)
  have KW := Lib.hid (KW.out.on k0)
  clear k0
  obtain ⟨a0, a1, a2, a3⟩ := HA.out.c
  obtain ⟨b0, b1, b2, b3⟩ := HB.out.c
  obtain ⟨r0, r1, r2, r3⟩ := HR.out.c
  have af0 := HA.out.f 0
  have af1 := HA.out.f 1
  have af2 := HA.out.f 2
  have af3 := HA.out.f 3
  have bf0 := HB.out.f 0
  have bf1 := HB.out.f 1
  have bf2 := HB.out.f 2
  have bf3 := HB.out.f 3
  have rf0 := HR.out.f 0
  have rf1 := HR.out.f 1
  have rf2 := HR.out.f 2
  have rf3 := HR.out.f 3
  try simp only at h1 h2 h4
  have hn1 : 0 ≤ n := by omega
  have hn2 : ¬ n < 16 := by omega
  go_wp2_with fail
  refine (HH _).mono ?_
  rintro e w1 ⟨rfl, k1⟩
  clear a0 a1 a2 a3 b0 b1 b2 b3 r0 r1 r2 r3 af0 af1 af2 af3 bf0 bf1 bf2 bf3 rf0 rf1 rf2 rf3
  have HA := Lib.hid (HA.out.on k1)
  have HB := Lib.hid (HB.out.on k1)
  have HR := Lib.hid (HR.out.on k1)
  have KW := Lib.hid (KW.out.on k1)
  clear k1
  obtain ⟨a0, a1, a2, a3⟩ := HA.out.c
  obtain ⟨b0, b1, b2, b3⟩ := HB.out.c
  obtain ⟨r0, r1, r2, r3⟩ := HR.out.c
  have af0 := HA.out.f 0
  have af1 := HA.out.f 1
  have af2 := HA.out.f 2
  have af3 := HA.out.f 3
  have bf0 := HB.out.f 0
  have bf1 := HB.out.f 1
  have bf2 := HB.out.f 2
  have bf3 := HB.out.f 3
  have rf0 := HR.out.f 0
  have rf1 := HR.out.f 1
  have rf2 := HR.out.f 2
  have rf3 := HR.out.f 3
  go_wp2_with fail
  refine (HN _).mono ?_
  rintro e w2 ⟨rfl, k2⟩
  clear a0 a1 a2 a3 b0 b1 b2 b3 r0 r1 r2 r3 af0 af1 af2 af3 bf0 bf1 bf2 bf3 rf0 rf1 rf2 rf3
  have HA := Lib.hid (HA.out.on k2)
  have HB := Lib.hid (HB.out.on k2)
  have HR := Lib.hid (HR.out.on k2)
  have KW := Lib.hid (KW.out.on k2)
  clear k2
  obtain ⟨a0, a1, a2, a3⟩ := HA.out.c
  obtain ⟨b0, b1, b2, b3⟩ := HB.out.c
  obtain ⟨r0, r1, r2, r3⟩ := HR.out.c
  have af0 := HA.out.f 0
  have af1 := HA.out.f 1
  have af2 := HA.out.f 2
  have af3 := HA.out.f 3
  have bf0 := HB.out.f 0
  have bf1 := HB.out.f 1
  have bf2 := HB.out.f 2
  have bf3 := HB.out.f 3
  have rf0 := HR.out.f 0
  have rf1 := HR.out.f 1
  have rf2 := HR.out.f 2
  have rf3 := HR.out.f 3
  go_wp2_with fail
  refine (HT _).mono ?_
  rintro e w3 ⟨rfl, k3⟩
  clear a0 a1 a2 a3 b0 b1 b2 b3 r0 r1 r2 r3 af0 af1 af2 af3 bf0 bf1 bf2 bf3 rf0 rf1 rf2 rf3
  have HA := Lib.hid (HA.out.on k3)
  have HB := Lib.hid (HB.out.on k3)
  have HR := Lib.hid (HR.out.on k3)
  have KW := Lib.hid (KW.out.on k3)
  clear k3
  obtain ⟨a0, a1, a2, a3⟩ := HA.out.c
  obtain ⟨b0, b1, b2, b3⟩ := HB.out.c
  obtain ⟨r0, r1, r2, r3⟩ := HR.out.c
  have af0 := HA.out.f 0
  have af1 := HA.out.f 1
  have af2 := HA.out.f 2
  have af3 := HA.out.f 3
  have bf0 := HB.out.f 0
  have bf1 := HB.out.f 1
  have bf2 := HB.out.f 2
  have bf3 := HB.out.f 3
  have rf0 := HR.out.f 0
  have rf1 := HR.out.f 1
  have rf2 := HR.out.f 2
  have rf3 := HR.out.f 3
  go_wp2_with fail
  refine bodyPost_ret (v := .tuple #[.agg #[.int .i64 ts, .int .i64 tn, .string tx, .int .i64 tt], .int .i64 0]) (by simp [results, Try.results12, go_sem, r0, r1, r2, r3]) rfl ⟨rfl, ?_⟩
  have K2 := KW.out
  have hp2 := HP.out
  repeat (first | exact K2 | refine Below.setCell ?_ (by simp <;> omega) _)
theorem doc_in_i  (x y : LV) (ho : opB [73, 78] = true) (h1 : (x.s == 0) = false) (h2 : (y.s == 0) = false) (hh : hasD x = true) (h4 : (y.s != 4) = false) (hr : 0 ≤ numD x ∧ numD x < 16) (hy : w16 y.n) (w : World) : Calls Try.prog 12 #[.string ⟨#[73, 78]⟩, x.val, y.val] w (AnsD (truD (y.n.toNat.testBit (numD x).toNat), 0) w) := by
  have HO := op_d [73, 78]
  rw [show opB [73, 78] = true from ho] at HO
  have HT := truth_d (y.n.toNat.testBit (numD x).toNat)
  obtain ⟨c, hc⟩ : ∃ c, y.n.toNat.testBit (numD x).toNat = c := ⟨_, rfl⟩
  rw [hc] at HT ⊢
  have hsb : (bits .and .i64 (y.n / 2 ^ min (numD x).toNat 64) 1 == 1) = c := by
    obtain ⟨q, hq, hq2⟩ := w16n hy
    rw [hq] at hc ⊢
    rw [sh_bit q _ hq2]
    exact hc
  have hsb2 : (bits .and .i64 (y.n / 2 ^ (numD x).toNat) 1 == 1) = c := by
    rw [Nat.min_eq_left (by omega)] at hsb
    exact hsb
  have HH := has_any x
  rw [hh] at HH
  have HN := number_d x
  obtain ⟨n, hn⟩ : ∃ n, numD x = n := ⟨_, rfl⟩
  rw [hn] at HN hr hsb hsb2
  clear hn hc hy
  have h15 : bits .and .i64 n 15 = n := by
    have h := bits_mask .i64 16 (by decide) i64_16 4 (by decide) n hr.1 (by omega)
    have h : bits .and .i64 n 15 = n % 16 := h
    rw [h]; omega
  have h64 : IntKind.u64.wrap n = n := by rw [IntKind.wrap_u64]; omega
  obtain ⟨tv, ht⟩ : ∃ t, truD c = t := ⟨_, rfl⟩
  rw [ht] at HT ⊢
  clear ht
  obtain ⟨ts, tn, tx, tt⟩ := tv
  clear hh
  obtain ⟨qs, qn, qx, qt⟩ := x
  obtain ⟨vs, vn, vx, vt⟩ := y
  unfold LV.val at *
  obtain ⟨W3, hW3⟩ : ∃ W3, ((w.alloc (.cells #[.int .i64 qs, .int .i64 qn, .string qx, .int .i64 qt] 29)).alloc (.cells #[.int .i64 vs, .int .i64 vn, .string vx, .int .i64 vt] 29)).alloc (.cells #[.int .i64 0, .int .i64 0, .string ⟨#[]⟩, .int .i64 0] 29) = W3 := ⟨_, rfl⟩
  have hA1 := (Four.new w (.int .i64 qs) (.int .i64 qn) (.string qx) (.int .i64 qt) 29).on ((Below.refl _ _).alloc (Nat.le_refl _) (.cells #[.int .i64 vs, .int .i64 vn, .string vx, .int .i64 vt] 29))
  have hA2 := hA1.on ((Below.refl _ _).alloc (Nat.le_refl _) (.cells #[.int .i64 0, .int .i64 0, .string ⟨#[]⟩, .int .i64 0] 29))
  have hB1 := (Four.new (w.alloc (.cells #[.int .i64 qs, .int .i64 qn, .string qx, .int .i64 qt] 29)) (.int .i64 vs) (.int .i64 vn) (.string vx) (.int .i64 vt) 29).on ((Below.refl _ _).alloc (Nat.le_refl _) (.cells #[.int .i64 0, .int .i64 0, .string ⟨#[]⟩, .int .i64 0] 29))
  have hR1 := Four.new ((w.alloc (.cells #[.int .i64 qs, .int .i64 qn, .string qx, .int .i64 qt] 29)).alloc (.cells #[.int .i64 vs, .int .i64 vn, .string vx, .int .i64 vt] 29)) (.int .i64 0) (.int .i64 0) (.string ⟨#[]⟩) (.int .i64 0) 29
  have hK : Bl w W3 := by rw [← hW3]; exact (((Below.refl _ _).alloc (Nat.le_refl _) _).alloc (by simp) _).alloc (by simp <;> omega) _
  simp only [World.size_alloc] at hA2 hB1 hR1
  rw [hW3] at hA2 hB1 hR1
  obtain ⟨p, hp⟩ : ∃ p, w.heap.size = p := ⟨_, rfl⟩
  rw [hp] at hA2 hB1 hR1
  have HP := Lib.hid hp
  have HA := Lib.hid hA2
  have HB := Lib.hid hB1
  have HR := Lib.hid hR1
  have KW := Lib.hid hK
  have HW3 := Lib.hid (And.intro hW3 hp)
  clear hA1 hA2 hB1 hR1 hK hW3 hp ho
  go_enter Try.func12, Try.ntmps12
  go_wp2_with fail
  rw [show ((w.alloc (.cells #[.int .i64 qs, .int .i64 qn, .string qx, .int .i64 qt] 29)).alloc (.cells #[.int .i64 vs, .int .i64 vn, .string vx, .int .i64 vt] 29)).alloc (.cells #[.int .i64 0, .int .i64 0, .string ⟨#[]⟩, .int .i64 0] 29) = W3 from HW3.out.1]
  try simp only [HW3.out.2]
  clear HW3
  refine (HO _).mono ?_
  rintro e w0 ⟨rfl, k0⟩
  clear HO
  have HA := Lib.hid (HA.out.on k0)
  have HB := Lib.hid (HB.out.on k0)
  have HR := Lib.hid (HR.out.on k0)
  have KW := Lib.hid (KW.out.on k0)
  clear k0
  obtain ⟨a0, a1, a2, a3⟩ := HA.out.c
  obtain ⟨b0, b1, b2, b3⟩ := HB.out.c
  obtain ⟨r0, r1, r2, r3⟩ := HR.out.c
  have af0 := HA.out.f 0
  have af1 := HA.out.f 1
  have af2 := HA.out.f 2
  have af3 := HA.out.f 3
  have bf0 := HB.out.f 0
  have bf1 := HB.out.f 1
  have bf2 := HB.out.f 2
  have bf3 := HB.out.f 3
  have rf0 := HR.out.f 0
  have rf1 := HR.out.f 1
  have rf2 := HR.out.f 2
  have rf3 := HR.out.f 3
  try simp only at h1 h2 h4 hsb hsb2
  obtain ⟨hr1, hr2⟩ := hr
  go_wp2_with fail
  refine (HH _).mono ?_
  rintro e w1 ⟨rfl, k1⟩
  clear a0 a1 a2 a3 b0 b1 b2 b3 r0 r1 r2 r3 af0 af1 af2 af3 bf0 bf1 bf2 bf3 rf0 rf1 rf2 rf3
  have HA := Lib.hid (HA.out.on k1)
  have HB := Lib.hid (HB.out.on k1)
  have HR := Lib.hid (HR.out.on k1)
  have KW := Lib.hid (KW.out.on k1)
  clear k1
  obtain ⟨a0, a1, a2, a3⟩ := HA.out.c
  obtain ⟨b0, b1, b2, b3⟩ := HB.out.c
  obtain ⟨r0, r1, r2, r3⟩ := HR.out.c
  have af0 := HA.out.f 0
  have af1 := HA.out.f 1
  have af2 := HA.out.f 2
  have af3 := HA.out.f 3
  have bf0 := HB.out.f 0
  have bf1 := HB.out.f 1
  have bf2 := HB.out.f 2
  have bf3 := HB.out.f 3
  have rf0 := HR.out.f 0
  have rf1 := HR.out.f 1
  have rf2 := HR.out.f 2
  have rf3 := HR.out.f 3
  go_wp2_with fail
  refine (HN _).mono ?_
  rintro e w2 ⟨rfl, k2⟩
  clear a0 a1 a2 a3 b0 b1 b2 b3 r0 r1 r2 r3 af0 af1 af2 af3 bf0 bf1 bf2 bf3 rf0 rf1 rf2 rf3
  have HA := Lib.hid (HA.out.on k2)
  have HB := Lib.hid (HB.out.on k2)
  have HR := Lib.hid (HR.out.on k2)
  have KW := Lib.hid (KW.out.on k2)
  clear k2
  obtain ⟨a0, a1, a2, a3⟩ := HA.out.c
  obtain ⟨b0, b1, b2, b3⟩ := HB.out.c
  obtain ⟨r0, r1, r2, r3⟩ := HR.out.c
  have af0 := HA.out.f 0
  have af1 := HA.out.f 1
  have af2 := HA.out.f 2
  have af3 := HA.out.f 3
  have bf0 := HB.out.f 0
  have bf1 := HB.out.f 1
  have bf2 := HB.out.f 2
  have bf3 := HB.out.f 3
  have rf0 := HR.out.f 0
  have rf1 := HR.out.f 1
  have rf2 := HR.out.f 2
  have rf3 := HR.out.f 3
  go_wp2_with fail
  refine (HT _).mono ?_
  rintro e w3 ⟨rfl, k3⟩
  clear a0 a1 a2 a3 b0 b1 b2 b3 r0 r1 r2 r3 af0 af1 af2 af3 bf0 bf1 bf2 bf3 rf0 rf1 rf2 rf3
  have HA := Lib.hid (HA.out.on k3)
  have HB := Lib.hid (HB.out.on k3)
  have HR := Lib.hid (HR.out.on k3)
  have KW := Lib.hid (KW.out.on k3)
  clear k3
  obtain ⟨a0, a1, a2, a3⟩ := HA.out.c
  obtain ⟨b0, b1, b2, b3⟩ := HB.out.c
  obtain ⟨r0, r1, r2, r3⟩ := HR.out.c
  have af0 := HA.out.f 0
  have af1 := HA.out.f 1
  have af2 := HA.out.f 2
  have af3 := HA.out.f 3
  have bf0 := HB.out.f 0
  have bf1 := HB.out.f 1
  have bf2 := HB.out.f 2
  have bf3 := HB.out.f 3
  have rf0 := HR.out.f 0
  have rf1 := HR.out.f 1
  have rf2 := HR.out.f 2
  have rf3 := HR.out.f 3
  go_wp2_with fail
  refine bodyPost_ret (v := .tuple #[.agg #[.int .i64 ts, .int .i64 tn, .string tx, .int .i64 tt], .int .i64 0]) (by simp [results, Try.results12, go_sem, r0, r1, r2, r3]) rfl ⟨rfl, ?_⟩
  have K2 := KW.out
  have hp2 := HP.out
  repeat (first | exact K2 | refine Below.setCell ?_ (by simp <;> omega) _)
end Go.Proofs.Ytpnohljhpoildaa
