/- The document of layer 10: Does behind the letters. -/
import Derived.Test.YtpnohljhpoildaaKnZ
import Derived.Deep.Cut
namespace Go.Proofs.Ytpnohljhpoildaa
open Go.RowKit
set_option maxHeartbeats 4000000
set_option maxRecDepth 100000
set_option linter.unusedVariables false
set_option linter.unusedSimpArgs false

theorem doc_ne (o : List UInt8) (x y : LV) (ho : opB o = true) (h1 : (x.s == 0) = false) (h2 : (y.s == 0) = false) (ei : (o == ([73, 78] : List UInt8)) = false) (hs : ((letD x).s != (letD y).s) = true) (w : World) : Calls Try.prog 12 #[.string ⟨o.toArray⟩, x.val, y.val] w (AnsD (zV, 100) w) := by
  have HO := op_d o
  rw [show opB o = true from ho] at HO
  have HLX := letd_any x
  have HLY := letd_any y
  obtain ⟨x', hx'⟩ : ∃ z, letD x = z := ⟨_, rfl⟩
  obtain ⟨y', hy'⟩ : ∃ z, letD y = z := ⟨_, rfl⟩
  rw [hx'] at HLX
  rw [hy'] at HLY
  try simp only [hx'] at hs
  try simp only [hy'] at hs
  clear hx' hy'
  obtain ⟨as', an', ax', at_⟩ := x'
  obtain ⟨bs', bn', bx', bt_⟩ := y'
  try simp only at hs
  obtain ⟨qs, qn, qx, qt⟩ := x
  obtain ⟨vs, vn, vx, vt⟩ := y
  unfold LV.val at *
  obtain ⟨W3, hW3⟩ : ∃ W3, ((w.alloc (.cells #[.int .i64 qs, .int .i64 qn, .string qx, .int .i64 qt] 29)).alloc (.cells #[.int .i64 vs, .int .i64 vn, .string vx, .int .i64 vt] 29)).alloc (.cells #[.int .i64 0, .int .i64 0, .string ⟨#[]⟩, .int .i64 0] 29) = W3 := ⟨_, rfl⟩
  have hA1 := (Four.new w (.int .i64 qs) (.int .i64 qn) (.string qx) (.int .i64 qt) 29).on ((Below.refl _ _).alloc (Nat.le_refl _) (.cells #[.int .i64 vs, .int .i64 vn, .string vx, .int .i64 vt] 29))
  have hA2 := hA1.on ((Below.refl _ _).alloc (Nat.le_refl _) (.cells #[.int .i64 0, .int .i64 0, .string ⟨#[]⟩, .int .i64 0] 29))
  have hB1 := (Four.new (w.alloc (.cells #[.int .i64 qs, .int .i64 qn, .string qx, .int .i64 qt] 29)) (.int .i64 vs) (.int .i64 vn) (.string vx) (.int .i64 vt) 29).on ((Below.refl _ _).alloc (Nat.le_refl _) (.cells #[.int .i64 0, .int .i64 0, .string ⟨#[]⟩, .int .i64 0] 29))
  have hR1 := Four.new ((w.alloc (.cells #[.int .i64 qs, .int .i64 qn, .string qx, .int .i64 qt] 29)).alloc (.cells #[.int .i64 vs, .int .i64 vn, .string vx, .int .i64 vt] 29)) (.int .i64 0) (.int .i64 0) (.string ⟨#[]⟩) (.int .i64 0) 29
  have hK : Bl w W3 := by rw [← hW3]; exact (((Below.refl _ _).alloc (Nat.le_refl _) _).alloc (by simp) _).alloc (by simp <;> omega) _
  simp only [World.size_alloc] at hA2 hB1 hR1
  rw [hW3] at hA2 hB1 hR1
  obtain ⟨p, hp⟩ : ∃ p, w.heap.size = p := ⟨_, rfl⟩
  rw [hp] at hA2 hB1 hR1
  have HP := Lib.hid hp
  have HA := Lib.hid hA2
  have HB := Lib.hid hB1
  have HR := Lib.hid hR1
  have KW := Lib.hid hK
  have HW3 := Lib.hid (And.intro hW3 hp)
  clear hA1 hA2 hB1 hR1 hK hW3 hp ho
  go_enter Try.func12, Try.ntmps12
  go_wp2_with fail
  rw [show ((w.alloc (.cells #[.int .i64 qs, .int .i64 qn, .string qx, .int .i64 qt] 29)).alloc (.cells #[.int .i64 vs, .int .i64 vn, .string vx, .int .i64 vt] 29)).alloc (.cells #[.int .i64 0, .int .i64 0, .string ⟨#[]⟩, .int .i64 0] 29) = W3 from HW3.out.1]
  try simp only [HW3.out.2]
  clear HW3
  refine (HO _).mono ?_
  rintro e w0 ⟨rfl, k0⟩
  clear HO
  have HA := Lib.hid (HA.out.on k0)
  have HB := Lib.hid (HB.out.on k0)
  have HR := Lib.hid (HR.out.on k0)
  have KW := Lib.hid (KW.out.on k0)
  clear k0
  obtain ⟨a0, a1, a2, a3⟩ := HA.out.c
  obtain ⟨b0, b1, b2, b3⟩ := HB.out.c
  obtain ⟨r0, r1, r2, r3⟩ := HR.out.c
  have af0 := HA.out.f 0
  have af1 := HA.out.f 1
  have af2 := HA.out.f 2
  have af3 := HA.out.f 3
  have bf0 := HB.out.f 0
  have bf1 := HB.out.f 1
  have bf2 := HB.out.f 2
  have bf3 := HB.out.f 3
  have rf0 := HR.out.f 0
  have rf1 := HR.out.f 1
  have rf2 := HR.out.f 2
  have rf3 := HR.out.f 3
  try simp only at h1 h2
  go_wp2_with fail
  refine (HLX _).mono ?_
  rintro e w1 ⟨rfl, k1⟩
  clear a0 a1 a2 a3 b0 b1 b2 b3 r0 r1 r2 r3 af0 af1 af2 af3 bf0 bf1 bf2 bf3 rf0 rf1 rf2 rf3
  have HA := Lib.hid (HA.out.on k1)
  have HB := Lib.hid (HB.out.on k1)
  have HR := Lib.hid (HR.out.on k1)
  have KW := Lib.hid (KW.out.on k1)
  clear k1
  obtain ⟨a0, a1, a2, a3⟩ := HA.out.c
  obtain ⟨b0, b1, b2, b3⟩ := HB.out.c
  obtain ⟨r0, r1, r2, r3⟩ := HR.out.c
  have af0 := HA.out.f 0
  have af1 := HA.out.f 1
  have af2 := HA.out.f 2
  have af3 := HA.out.f 3
  have bf0 := HB.out.f 0
  have bf1 := HB.out.f 1
  have bf2 := HB.out.f 2
  have bf3 := HB.out.f 3
  have rf0 := HR.out.f 0
  have rf1 := HR.out.f 1
  have rf2 := HR.out.f 2
  have rf3 := HR.out.f 3
  go_wp2_with fail
  obtain ⟨wz, hw_⟩ : ∃ z, ((((w1.setCell ⟨p, 0, none⟩ (.int .i64 as')).setCell ⟨p, 1, none⟩ (.int .i64 an')).setCell ⟨p, 2, none⟩ (.string ax')).setCell ⟨p, 3, none⟩ (.int .i64 at_)) = z := ⟨_, rfl⟩
  have HA := Lib.hid (show Four wz _ (.int .i64 as') (.int .i64 an') (.string ax') (.int .i64 at_) 29 from by rw [← hw_]; exact four_set HA.out _ _ _ _)
  have HB := Lib.hid (show Four wz _ _ _ _ _ _ from by rw [← hw_]; exact four_far HB.out (by omega) _ _ _ _)
  have HR := Lib.hid (show Four wz _ _ _ _ _ _ from by rw [← hw_]; exact four_far HR.out (by omega) _ _ _ _)
  have KW := Lib.hid (show Bl w wz from by rw [← hw_]; exact below_set KW.out (by have := HP.out; omega) _ _ _ _)
  rw [hw_]
  clear hw_
  clear a0 a1 a2 a3 b0 b1 b2 b3 r0 r1 r2 r3 af0 af1 af2 af3 bf0 bf1 bf2 bf3 rf0 rf1 rf2 rf3
  obtain ⟨a0, a1, a2, a3⟩ := HA.out.c
  obtain ⟨b0, b1, b2, b3⟩ := HB.out.c
  obtain ⟨r0, r1, r2, r3⟩ := HR.out.c
  have af0 := HA.out.f 0
  have af1 := HA.out.f 1
  have af2 := HA.out.f 2
  have af3 := HA.out.f 3
  have bf0 := HB.out.f 0
  have bf1 := HB.out.f 1
  have bf2 := HB.out.f 2
  have bf3 := HB.out.f 3
  have rf0 := HR.out.f 0
  have rf1 := HR.out.f 1
  have rf2 := HR.out.f 2
  have rf3 := HR.out.f 3
  refine (HLY _).mono ?_
  rintro e w2 ⟨rfl, k2⟩
  clear a0 a1 a2 a3 b0 b1 b2 b3 r0 r1 r2 r3 af0 af1 af2 af3 bf0 bf1 bf2 bf3 rf0 rf1 rf2 rf3
  have HA := Lib.hid (HA.out.on k2)
  have HB := Lib.hid (HB.out.on k2)
  have HR := Lib.hid (HR.out.on k2)
  have KW := Lib.hid (KW.out.on k2)
  clear k2
  obtain ⟨a0, a1, a2, a3⟩ := HA.out.c
  obtain ⟨b0, b1, b2, b3⟩ := HB.out.c
  obtain ⟨r0, r1, r2, r3⟩ := HR.out.c
  have af0 := HA.out.f 0
  have af1 := HA.out.f 1
  have af2 := HA.out.f 2
  have af3 := HA.out.f 3
  have bf0 := HB.out.f 0
  have bf1 := HB.out.f 1
  have bf2 := HB.out.f 2
  have bf3 := HB.out.f 3
  have rf0 := HR.out.f 0
  have rf1 := HR.out.f 1
  have rf2 := HR.out.f 2
  have rf3 := HR.out.f 3
  go_upto_region 12 with fail
  obtain ⟨wy, hw_⟩ : ∃ z, ((((w2.setCell ⟨(p + 1), 0, none⟩ (.int .i64 bs')).setCell ⟨(p + 1), 1, none⟩ (.int .i64 bn')).setCell ⟨(p + 1), 2, none⟩ (.string bx')).setCell ⟨(p + 1), 3, none⟩ (.int .i64 bt_)) = z := ⟨_, rfl⟩
  have HB := Lib.hid (show Four wy _ (.int .i64 bs') (.int .i64 bn') (.string bx') (.int .i64 bt_) 29 from by rw [← hw_]; exact four_set HB.out _ _ _ _)
  have HA := Lib.hid (show Four wy _ _ _ _ _ _ from by rw [← hw_]; exact four_far HA.out (by omega) _ _ _ _)
  have HR := Lib.hid (show Four wy _ _ _ _ _ _ from by rw [← hw_]; exact four_far HR.out (by omega) _ _ _ _)
  have KW := Lib.hid (show Bl w wy from by rw [← hw_]; exact below_set KW.out (by have := HP.out; omega) _ _ _ _)
  rw [hw_]
  clear hw_
  clear a0 a1 a2 a3 b0 b1 b2 b3 r0 r1 r2 r3 af0 af1 af2 af3 bf0 bf1 bf2 bf3 rf0 rf1 rf2 rf3
  obtain ⟨a0, a1, a2, a3⟩ := HA.out.c
  obtain ⟨b0, b1, b2, b3⟩ := HB.out.c
  obtain ⟨r0, r1, r2, r3⟩ := HR.out.c
  have af0 := HA.out.f 0
  have af1 := HA.out.f 1
  have af2 := HA.out.f 2
  have af3 := HA.out.f 3
  have bf0 := HB.out.f 0
  have bf1 := HB.out.f 1
  have bf2 := HB.out.f 2
  have bf3 := HB.out.f 3
  have rf0 := HR.out.f 0
  have rf1 := HR.out.f 1
  have rf2 := HR.out.f 2
  have rf3 := HR.out.f 3
  go_wp2_with fail
  refine bodyPost_ret (v := .tuple #[.agg #[.int .i64 0, .int .i64 0, .string ⟨#[]⟩, .int .i64 0], .int .i64 100]) (by simp [results, Try.results12, go_sem, r0, r1, r2, r3]) rfl ⟨rfl, ?_⟩
  have K2 := KW.out
  have hp2 := HP.out
  repeat (first | exact K2 | refine Below.setCell ?_ (by simp <;> omega) _)
end Go.Proofs.Ytpnohljhpoildaa
