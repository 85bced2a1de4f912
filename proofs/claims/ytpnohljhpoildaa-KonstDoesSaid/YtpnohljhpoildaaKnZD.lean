/- The document of layer 10: Does of whole numbers. -/
import Derived.Test.YtpnohljhpoildaaKnZA
namespace Go.Proofs.Ytpnohljhpoildaa
open Go.RowKit
set_option maxHeartbeats 4000000
set_option maxRecDepth 100000
set_option linter.unusedVariables false
set_option linter.unusedSimpArgs false

theorem doc_1w (o : List UInt8) (x y : LV) (ho : opB o = true) (h1 : (x.s == 0) = false) (h2 : (y.s == 0) = false) (ei : (o == ([73, 78] : List UInt8)) = false) (hsx : (letD x).s = 1) (hsy : (letD y).s = 1) (hwx : inW (letD x).n = true) (hwy : inW (letD y).n = true) (hne : ((wholesD o (letD x).n (letD y).n).2 != 100) = true) (w : World) : Calls Try.prog 12 #[.string ⟨o.toArray⟩, x.val, y.val] w (AnsD (wholesD o (letD x).n (letD y).n) w) := by
  have HO := op_d o
  rw [show opB o = true from ho] at HO
  have HS := wholesd_any o (letD x).n (letD y).n hwx hwy
  obtain ⟨p, hp⟩ : ∃ p, wholesD o (letD x).n (letD y).n = p := ⟨_, rfl⟩
  rw [hp] at HS hne ⊢
  clear hp hwx hwy
  obtain ⟨⟨ts, tn, tx, tt⟩, er⟩ := p
  unfold AnsD LV.val at HS
  try simp only at HS hne
  have HLX := letd_any x
  have HLY := letd_any y
  obtain ⟨x', hx'⟩ : ∃ z, letD x = z := ⟨_, rfl⟩
  obtain ⟨y', hy'⟩ : ∃ z, letD y = z := ⟨_, rfl⟩
  rw [hx'] at HLX
  rw [hy'] at HLY
  try simp only [hx'] at hsx hsy HS
  try simp only [hy'] at hsx hsy HS
  clear hx' hy'
  obtain ⟨as', an', ax', at_⟩ := x'
  obtain ⟨bs', bn', bx', bt_⟩ := y'
  try simp only at hsx hsy HS
  subst hsx hsy
  obtain ⟨qs, qn, qx, qt⟩ := x
  obtain ⟨vs, vn, vx, vt⟩ := y
  unfold LV.val at *
  obtain ⟨W3, hW3⟩ : ∃ W3, ((w.alloc (.cells #[.int .i64 qs, .int .i64 qn, .string qx, .int .i64 qt] 29)).alloc (.cells #[.int .i64 vs, .int .i64 vn, .string vx, .int .i64 vt] 29)).alloc (.cells #[.int .i64 0, .int .i64 0, .string ⟨#[]⟩, .int .i64 0] 29) = W3 := ⟨_, rfl⟩
  have hA1 := (Four.new w (.int .i64 qs) (.int .i64 qn) (.string qx) (.int .i64 qt) 29).on ((Below.refl _ _).alloc (Nat.le_refl _) (.cells #[.int .i64 vs, .int .i64 vn, .string vx, .int .i64 vt] 29))
  have hA2 := hA1.on ((Below.refl _ _).alloc (Nat.le_refl _) (.cells #[.int .i64 0, .int .i64 0, .string ⟨#[]⟩, .int .i64 0] 29))
  have hB1 := (Four.new (w.alloc (.cells #[.int .i64 qs, .int .i64 qn, .string qx, .int .i64 qt] 29)) (.int .i64 vs) (.int .i64 vn) (.string vx) (.int .i64 vt) 29).on ((Below.refl _ _).alloc (Nat.le_refl _) (.cells #[.int .i64 0, .int .i64 0, .string ⟨#[]⟩, .int .i64 0] 29))
  have hR1 := Four.new ((w.alloc (.cells #[.int .i64 qs, .int .i64 qn, .string qx, .int .i64 qt] 29)).alloc (.cells #[.int .i64 vs, .int .i64 vn, .string vx, .int .i64 vt] 29)) (.int .i64 0) (.int .i64 0) (.string ⟨#[]⟩) (.int .i64 0) 29
  have hK : Bl w W3 := by rw [← hW3]; exact (((Below.refl _ _).alloc (Nat.le_refl _) _).alloc (by simp) _).alloc (by simp <;> omega) _
  simp only [World.size_alloc] at hA2 hB1 hR1
  rw [hW3] at hA2 hB1 hR1
  obtain ⟨p, hp⟩ : ∃ p, w.heap.size = p := ⟨_, rfl⟩
  rw [hp] at hA2 hB1 hR1
  have HP := Lib.hid hp
  have HA := Lib.hid hA2
  have HB := Lib.hid hB1
  have HR := Lib.hid hR1
  have KW := Lib.hid hK
  have HW3 := Lib.hid (And.intro hW3 hp)
  clear hA1 hA2 hB1 hR1 hK hW3 hp ho
  go_enter Try.func12, Try.ntmps12
  go_wp2_with fail
  rw [show ((w.alloc (.cells #[.int .i64 qs, .int .i64 qn, .string qx, .int .i64 qt] 29)).alloc (.cells #[.int .i64 vs, .int .i64 vn, .string vx, .int .i64 vt] 29)).alloc (.cells #[.int .i64 0, .int .i64 0, .string ⟨#[]⟩, .int .i64 0] 29) = W3 from HW3.out.1]
  try simp only [HW3.out.2]
  clear HW3
  refine (HO _).mono ?_
  rintro e w0 ⟨rfl, k0⟩
  clear HO
  have HA := Lib.hid (HA.out.on k0)
  have HB := Lib.hid (HB.out.on k0)
  have HR := Lib.hid (HR.out.on k0)
  have KW := Lib.hid (KW.out.on k0)
  clear k0
  obtain ⟨a0, a1, a2, a3⟩ := HA.out.c
  obtain ⟨b0, b1, b2, b3⟩ := HB.out.c
  obtain ⟨r0, r1, r2, r3⟩ := HR.out.c
  have af0 := HA.out.f 0
  have af1 := HA.out.f 1
  have af2 := HA.out.f 2
  have af3 := HA.out.f 3
  have bf0 := HB.out.f 0
  have bf1 := HB.out.f 1
  have bf2 := HB.out.f 2
  have bf3 := HB.out.f 3
  have rf0 := HR.out.f 0
  have rf1 := HR.out.f 1
  have rf2 := HR.out.f 2
  have rf3 := HR.out.f 3
  try simp only at h1 h2
  go_wp2_with fail
  refine (HLX _).mono ?_
  rintro e w1 ⟨rfl, k1⟩
  clear a0 a1 a2 a3 b0 b1 b2 b3 r0 r1 r2 r3 af0 af1 af2 af3 bf0 bf1 bf2 bf3 rf0 rf1 rf2 rf3
  have HA := Lib.hid (HA.out.on k1)
  have HB := Lib.hid (HB.out.on k1)
  have HR := Lib.hid (HR.out.on k1)
  have KW := Lib.hid (KW.out.on k1)
  clear k1
  obtain ⟨a0, a1, a2, a3⟩ := HA.out.c
  obtain ⟨b0, b1, b2, b3⟩ := HB.out.c
  obtain ⟨r0, r1, r2, r3⟩ := HR.out.c
  have af0 := HA.out.f 0
  have af1 := HA.out.f 1
  have af2 := HA.out.f 2
  have af3 := HA.out.f 3
  have bf0 := HB.out.f 0
  have bf1 := HB.out.f 1
  have bf2 := HB.out.f 2
  have bf3 := HB.out.f 3
  have rf0 := HR.out.f 0
  have rf1 := HR.out.f 1
  have rf2 := HR.out.f 2
  have rf3 := HR.out.f 3
  go_wp2_with fail
  obtain ⟨wz, hw_⟩ : ∃ z, ((((w1.setCell ⟨p, 0, none⟩ (.int .i64 1)).setCell ⟨p, 1, none⟩ (.int .i64 an')).setCell ⟨p, 2, none⟩ (.string ax')).setCell ⟨p, 3, none⟩ (.int .i64 at_)) = z := ⟨_, rfl⟩
  have HA := Lib.hid (show Four wz _ (.int .i64 1) (.int .i64 an') (.string ax') (.int .i64 at_) 29 from by rw [← hw_]; exact four_set HA.out _ _ _ _)
  have HB := Lib.hid (show Four wz _ _ _ _ _ _ from by rw [← hw_]; exact four_far HB.out (by omega) _ _ _ _)
  have HR := Lib.hid (show Four wz _ _ _ _ _ _ from by rw [← hw_]; exact four_far HR.out (by omega) _ _ _ _)
  have KW := Lib.hid (show Bl w wz from by rw [← hw_]; exact below_set KW.out (by have := HP.out; omega) _ _ _ _)
  rw [hw_]
  clear hw_
  clear a0 a1 a2 a3 b0 b1 b2 b3 r0 r1 r2 r3 af0 af1 af2 af3 bf0 bf1 bf2 bf3 rf0 rf1 rf2 rf3
  obtain ⟨a0, a1, a2, a3⟩ := HA.out.c
  obtain ⟨b0, b1, b2, b3⟩ := HB.out.c
  obtain ⟨r0, r1, r2, r3⟩ := HR.out.c
  have af0 := HA.out.f 0
  have af1 := HA.out.f 1
  have af2 := HA.out.f 2
  have af3 := HA.out.f 3
  have bf0 := HB.out.f 0
  have bf1 := HB.out.f 1
  have bf2 := HB.out.f 2
  have bf3 := HB.out.f 3
  have rf0 := HR.out.f 0
  have rf1 := HR.out.f 1
  have rf2 := HR.out.f 2
  have rf3 := HR.out.f 3
  refine (HLY _).mono ?_
  rintro e w2 ⟨rfl, k2⟩
  clear a0 a1 a2 a3 b0 b1 b2 b3 r0 r1 r2 r3 af0 af1 af2 af3 bf0 bf1 bf2 bf3 rf0 rf1 rf2 rf3
  have HA := Lib.hid (HA.out.on k2)
  have HB := Lib.hid (HB.out.on k2)
  have HR := Lib.hid (HR.out.on k2)
  have KW := Lib.hid (KW.out.on k2)
  clear k2
  obtain ⟨a0, a1, a2, a3⟩ := HA.out.c
  obtain ⟨b0, b1, b2, b3⟩ := HB.out.c
  obtain ⟨r0, r1, r2, r3⟩ := HR.out.c
  have af0 := HA.out.f 0
  have af1 := HA.out.f 1
  have af2 := HA.out.f 2
  have af3 := HA.out.f 3
  have bf0 := HB.out.f 0
  have bf1 := HB.out.f 1
  have bf2 := HB.out.f 2
  have bf3 := HB.out.f 3
  have rf0 := HR.out.f 0
  have rf1 := HR.out.f 1
  have rf2 := HR.out.f 2
  have rf3 := HR.out.f 3
  go_upto_region 12 with fail
  obtain ⟨wy, hw_⟩ : ∃ z, ((((w2.setCell ⟨(p + 1), 0, none⟩ (.int .i64 1)).setCell ⟨(p + 1), 1, none⟩ (.int .i64 bn')).setCell ⟨(p + 1), 2, none⟩ (.string bx')).setCell ⟨(p + 1), 3, none⟩ (.int .i64 bt_)) = z := ⟨_, rfl⟩
  have HB := Lib.hid (show Four wy _ (.int .i64 1) (.int .i64 bn') (.string bx') (.int .i64 bt_) 29 from by rw [← hw_]; exact four_set HB.out _ _ _ _)
  have HA := Lib.hid (show Four wy _ _ _ _ _ _ from by rw [← hw_]; exact four_far HA.out (by omega) _ _ _ _)
  have HR := Lib.hid (show Four wy _ _ _ _ _ _ from by rw [← hw_]; exact four_far HR.out (by omega) _ _ _ _)
  have KW := Lib.hid (show Bl w wy from by rw [← hw_]; exact below_set KW.out (by have := HP.out; omega) _ _ _ _)
  rw [hw_]
  clear hw_
  clear a0 a1 a2 a3 b0 b1 b2 b3 r0 r1 r2 r3 af0 af1 af2 af3 bf0 bf1 bf2 bf3 rf0 rf1 rf2 rf3
  obtain ⟨a0, a1, a2, a3⟩ := HA.out.c
  obtain ⟨b0, b1, b2, b3⟩ := HB.out.c
  obtain ⟨r0, r1, r2, r3⟩ := HR.out.c
  have af0 := HA.out.f 0
  have af1 := HA.out.f 1
  have af2 := HA.out.f 2
  have af3 := HA.out.f 3
  have bf0 := HB.out.f 0
  have bf1 := HB.out.f 1
  have bf2 := HB.out.f 2
  have bf3 := HB.out.f 3
  have rf0 := HR.out.f 0
  have rf1 := HR.out.f 1
  have rf2 := HR.out.f 2
  have rf3 := HR.out.f 3
  go_wp2_with fail
  refine (HS _).mono ?_
  rintro e w3 ⟨rfl, k3⟩
  clear a0 a1 a2 a3 b0 b1 b2 b3 r0 r1 r2 r3 af0 af1 af2 af3 bf0 bf1 bf2 bf3 rf0 rf1 rf2 rf3
  have HA := Lib.hid (HA.out.on k3)
  have HB := Lib.hid (HB.out.on k3)
  have HR := Lib.hid (HR.out.on k3)
  have KW := Lib.hid (KW.out.on k3)
  clear k3
  obtain ⟨a0, a1, a2, a3⟩ := HA.out.c
  obtain ⟨b0, b1, b2, b3⟩ := HB.out.c
  obtain ⟨r0, r1, r2, r3⟩ := HR.out.c
  have af0 := HA.out.f 0
  have af1 := HA.out.f 1
  have af2 := HA.out.f 2
  have af3 := HA.out.f 3
  have bf0 := HB.out.f 0
  have bf1 := HB.out.f 1
  have bf2 := HB.out.f 2
  have bf3 := HB.out.f 3
  have rf0 := HR.out.f 0
  have rf1 := HR.out.f 1
  have rf2 := HR.out.f 2
  have rf3 := HR.out.f 3
  go_upto_region 30 with fail
  obtain ⟨wn, hwn⟩ : ∃ z, w3.alloc (.cells #[.int .i64 ts, .int .i64 tn, .string tx, .int .i64 tt] 29) = z := ⟨_, rfl⟩
  have kn : Bl w3 wn := by rw [← hwn]; exact (Below.refl _ _).alloc (Nat.le_refl _) _
  have HT9 := Lib.hid (And.intro (show Four wn w3.heap.size (.int .i64 ts) (.int .i64 tn) (.string tx) (.int .i64 tt) 29 from by rw [← hwn]; exact Four.new w3 _ _ _ _ _) (show w.heap.size ≤ w3.heap.size from KW.out.size))
  rw [hwn]
  clear hwn
  clear a0 a1 a2 a3 b0 b1 b2 b3 r0 r1 r2 r3 af0 af1 af2 af3 bf0 bf1 bf2 bf3 rf0 rf1 rf2 rf3
  have HA := Lib.hid (HA.out.on kn)
  have HB := Lib.hid (HB.out.on kn)
  have HR := Lib.hid (HR.out.on kn)
  have KW := Lib.hid (KW.out.on kn)
  clear kn
  obtain ⟨a0, a1, a2, a3⟩ := HA.out.c
  obtain ⟨b0, b1, b2, b3⟩ := HB.out.c
  obtain ⟨r0, r1, r2, r3⟩ := HR.out.c
  have af0 := HA.out.f 0
  have af1 := HA.out.f 1
  have af2 := HA.out.f 2
  have af3 := HA.out.f 3
  have bf0 := HB.out.f 0
  have bf1 := HB.out.f 1
  have bf2 := HB.out.f 2
  have bf3 := HB.out.f 3
  have rf0 := HR.out.f 0
  have rf1 := HR.out.f 1
  have rf2 := HR.out.f 2
  have rf3 := HR.out.f 3
  obtain ⟨t90, t91, t92, t93⟩ := HT9.out.1.c
  go_wp2_with fail
  refine bodyPost_ret (v := .tuple #[.agg #[.int .i64 ts, .int .i64 tn, .string tx, .int .i64 tt], .int .i64 er]) (by simp [results, Try.results12, go_sem, r0, r1, r2, r3]) rfl ⟨rfl, ?_⟩
  have K2 := KW.out
  have hp2 := HP.out
  repeat (first | exact K2 | refine Below.setCell ?_ (by simp <;> omega) _)
theorem doc_1o (o : List UInt8) (x y : LV) (ho : opB o = true) (h1 : (x.s == 0) = false) (h2 : (y.s == 0) = false) (ei : (o == ([73, 78] : List UInt8)) = false) (hsx : (letD x).s = 1) (hsy : (letD y).s = 1) (hwx : inW (letD x).n = true) (hwy : inW (letD y).n = true) (hne : wholesD o (letD x).n (letD y).n = (zV, 100)) (w : World) : Calls Try.prog 12 #[.string ⟨o.toArray⟩, x.val, y.val] w (AnsD (ordersD o (letD x).n (letD y).n) w) := by
  have HO := op_d o
  rw [show opB o = true from ho] at HO
  have HS := wholesd_any o (letD x).n (letD y).n hwx hwy
  rw [hne] at HS
  clear hwx hwy hne
  unfold AnsD LV.val zV nilS at HS
  simp only at HS
  have HQ := ordersd_any o (letD x).n (letD y).n
  obtain ⟨p, hp⟩ : ∃ p, ordersD o (letD x).n (letD y).n = p := ⟨_, rfl⟩
  rw [hp] at HQ ⊢
  clear hp
  obtain ⟨⟨ts, tn, tx, tt⟩, er⟩ := p
  unfold AnsD LV.val at HQ
  simp only at HQ
  have HLX := letd_any x
  have HLY := letd_any y
  obtain ⟨x', hx'⟩ : ∃ z, letD x = z := ⟨_, rfl⟩
  obtain ⟨y', hy'⟩ : ∃ z, letD y = z := ⟨_, rfl⟩
  rw [hx'] at HLX
  rw [hy'] at HLY
  try simp only [hx'] at hsx hsy HS HQ
  try simp only [hy'] at hsx hsy HS HQ
  clear hx' hy'
  obtain ⟨as', an', ax', at_⟩ := x'
  obtain ⟨bs', bn', bx', bt_⟩ := y'
  try simp only at hsx hsy HS HQ
  subst hsx hsy
  obtain ⟨qs, qn, qx, qt⟩ := x
  obtain ⟨vs, vn, vx, vt⟩ := y
  unfold LV.val at *
  obtain ⟨W3, hW3⟩ : ∃ W3, ((w.alloc (.cells #[.int .i64 qs, .int .i64 qn, .string qx, .int .i64 qt] 29)).alloc (.cells #[.int .i64 vs, .int .i64 vn, .string vx, .int .i64 vt] 29)).alloc (.cells #[.int .i64 0, .int .i64 0, .string ⟨#[]⟩, .int .i64 0] 29) = W3 := ⟨_, rfl⟩
  have hA1 := (Four.new w (.int .i64 qs) (.int .i64 qn) (.string qx) (.int .i64 qt) 29).on ((Below.refl _ _).alloc (Nat.le_refl _) (.cells #[.int .i64 vs, .int .i64 vn, .string vx, .int .i64 vt] 29))
  have hA2 := hA1.on ((Below.refl _ _).alloc (Nat.le_refl _) (.cells #[.int .i64 0, .int .i64 0, .string ⟨#[]⟩, .int .i64 0] 29))
  have hB1 := (Four.new (w.alloc (.cells #[.int .i64 qs, .int .i64 qn, .string qx, .int .i64 qt] 29)) (.int .i64 vs) (.int .i64 vn) (.string vx) (.int .i64 vt) 29).on ((Below.refl _ _).alloc (Nat.le_refl _) (.cells #[.int .i64 0, .int .i64 0, .string ⟨#[]⟩, .int .i64 0] 29))
  have hR1 := Four.new ((w.alloc (.cells #[.int .i64 qs, .int .i64 qn, .string qx, .int .i64 qt] 29)).alloc (.cells #[.int .i64 vs, .int .i64 vn, .string vx, .int .i64 vt] 29)) (.int .i64 0) (.int .i64 0) (.string ⟨#[]⟩) (.int .i64 0) 29
  have hK : Bl w W3 := by rw [← hW3]; exact (((Below.refl _ _).alloc (Nat.le_refl _) _).alloc (by simp) _).alloc (by simp <;> omega) _
  simp only [World.size_alloc] at hA2 hB1 hR1
  rw [hW3] at hA2 hB1 hR1
  obtain ⟨p, hp⟩ : ∃ p, w.heap.size = p := ⟨_, rfl⟩
  rw [hp] at hA2 hB1 hR1
  have HP := Lib.hid hp
  have HA := Lib.hid hA2
  have HB := Lib.hid hB1
  have HR := Lib.hid hR1
  have KW := Lib.hid hK
  have HW3 := Lib.hid (And.intro hW3 hp)
  clear hA1 hA2 hB1 hR1 hK hW3 hp ho
  go_enter Try.func12, Try.ntmps12
  go_wp2_with fail
  rw [show ((w.alloc (.cells #[.int .i64 qs, .int .i64 qn, .string qx, .int .i64 qt] 29)).alloc (.cells #[.int .i64 vs, .int .i64 vn, .string vx, .int .i64 vt] 29)).alloc (.cells #[.int .i64 0, .int .i64 0, .string ⟨#[]⟩, .int .i64 0] 29) = W3 from HW3.out.1]
  try simp only [HW3.out.2]
  clear HW3
  refine (HO _).mono ?_
  rintro e w0 ⟨rfl, k0⟩
  clear HO
  have HA := Lib.hid (HA.out.on k0)
  have HB := Lib.hid (HB.out.on k0)
  have HR := Lib.hid (HR.out.on k0)
  have KW := Lib.hid (KW.out.on k0)
  clear k0
  obtain ⟨a0, a1, a2, a3⟩ := HA.out.c
  obtain ⟨b0, b1, b2, b3⟩ := HB.out.c
  obtain ⟨r0, r1, r2, r3⟩ := HR.out.c
  have af0 := HA.out.f 0
  have af1 := HA.out.f 1
  have af2 := HA.out.f 2
  have af3 := HA.out.f 3
  have bf0 := HB.out.f 0
  have bf1 := HB.out.f 1
  have bf2 := HB.out.f 2
  have bf3 := HB.out.f 3
  have rf0 := HR.out.f 0
  have rf1 := HR.out.f 1
  have rf2 := HR.out.f 2
  have rf3 := HR.out.f 3
  try simp only at h1 h2
  go_wp2_with fail
  refine (HLX _).mono ?_
  rintro e w1 ⟨rfl, k1⟩
  clear a0 a1 a2 a3 b0 b1 b2 b3 r0 r1 r2 r3 af0 af1 af2 af3 bf0 bf1 bf2 bf3 rf0 rf1 rf2 rf3
  have HA := Lib.hid (HA.out.on k1)
  have HB := Lib.hid (HB.out.on k1)
  have HR := Lib.hid (HR.out.on k1)
  have KW := Lib.hid (KW.out.on k1)
  clear k1
  obtain ⟨a0, a1, a2, a3⟩ := HA.out.c
  obtain ⟨b0, b1, b2, b3⟩ := HB.out.c
  obtain ⟨r0, r1, r2, r3⟩ := HR.out.c
  have af0 := HA.out.f 0
  have af1 := HA.out.f 1
  have af2 := HA.out.f 2
  have af3 := HA.out.f 3
  have bf0 := HB.out.f 0
  have bf1 := HB.out.f 1
  have bf2 := HB.out.f 2
  have bf3 := HB.out.f 3
  have rf0 := HR.out.f 0
  have rf1 := HR.out.f 1
  have rf2 := HR.out.f 2
  have rf3 := HR.out.f 3
  go_wp2_with fail
  obtain ⟨wz, hw_⟩ : ∃ z, ((((w1.setCell ⟨p, 0, none⟩ (.int .i64 1)).setCell ⟨p, 1, none⟩ (.int .i64 an')).setCell ⟨p, 2, none⟩ (.string ax')).setCell ⟨p, 3, none⟩ (.int .i64 at_)) = z := ⟨_, rfl⟩
  have HA := Lib.hid (show Four wz _ (.int .i64 1) (.int .i64 an') (.string ax') (.int .i64 at_) 29 from by rw [← hw_]; exact four_set HA.out _ _ _ _)
  have HB := Lib.hid (show Four wz _ _ _ _ _ _ from by rw [← hw_]; exact four_far HB.out (by omega) _ _ _ _)
  have HR := Lib.hid (show Four wz _ _ _ _ _ _ from by rw [← hw_]; exact four_far HR.out (by omega) _ _ _ _)
  have KW := Lib.hid (show Bl w wz from by rw [← hw_]; exact below_set KW.out (by have := HP.out; omega) _ _ _ _)
  rw [hw_]
  clear hw_
  clear a0 a1 a2 a3 b0 b1 b2 b3 r0 r1 r2 r3 af0 af1 af2 af3 bf0 bf1 bf2 bf3 rf0 rf1 rf2 rf3
  obtain ⟨a0, a1, a2, a3⟩ := HA.out.c
  obtain ⟨b0, b1, b2, b3⟩ := HB.out.c
  obtain ⟨r0, r1, r2, r3⟩ := HR.out.c
  have af0 := HA.out.f 0
  have af1 := HA.out.f 1
  have af2 := HA.out.f 2
  have af3 := HA.out.f 3
  have bf0 := HB.out.f 0
  have bf1 := HB.out.f 1
  have bf2 := HB.out.f 2
  have bf3 := HB.out.f 3
  have rf0 := HR.out.f 0
  have rf1 := HR.out.f 1
  have rf2 := HR.out.f 2
  have rf3 := HR.out.f 3
  refine (HLY _).mono ?_
  rintro e w2 ⟨rfl, k2⟩
  clear a0 a1 a2 a3 b0 b1 b2 b3 r0 r1 r2 r3 af0 af1 af2 af3 bf0 bf1 bf2 bf3 rf0 rf1 rf2 rf3
  have HA := Lib.hid (HA.out.on k2)
  have HB := Lib.hid (HB.out.on k2)
  have HR := Lib.hid (HR.out.on k2)
  have KW := Lib.hid (KW.out.on k2)
  clear k2
  obtain ⟨a0, a1, a2, a3⟩ := HA.out.c
  obtain ⟨b0, b1, b2, b3⟩ := HB.out.c
  obtain ⟨r0, r1, r2, r3⟩ := HR.out.c
  have af0 := HA.out.f 0
  have af1 := HA.out.f 1
  have af2 := HA.out.f 2
  have af3 := HA.out.f 3
  have bf0 := HB.out.f 0
  have bf1 := HB.out.f 1
  have bf2 := HB.out.f 2
  have bf3 := HB.out.f 3
  have rf0 := HR.out.f 0
  have rf1 := HR.out.f 1
  have rf2 := HR.out.f 2
  have rf3 := HR.out.f 3
  go_upto_region 12 with fail
  obtain ⟨wy, hw_⟩ : ∃ z, ((((w2.setCell ⟨(p + 1), 0, none⟩ (.int .i64 1)).setCell ⟨(p + 1), 1, none⟩ (.int .i64 bn')).setCell ⟨(p + 1), 2, none⟩ (.string bx')).setCell ⟨(p + 1), 3, none⟩ (.int .i64 bt_)) = z := ⟨_, rfl⟩
  have HB := Lib.hid (show Four wy _ (.int .i64 1) (.int .i64 bn') (.string bx') (.int .i64 bt_) 29 from by rw [← hw_]; exact four_set HB.out _ _ _ _)
  have HA := Lib.hid (show Four wy _ _ _ _ _ _ from by rw [← hw_]; exact four_far HA.out (by omega) _ _ _ _)
  have HR := Lib.hid (show Four wy _ _ _ _ _ _ from by rw [← hw_]; exact four_far HR.out (by omega) _ _ _ _)
  have KW := Lib.hid (show Bl w wy from by rw [← hw_]; exact below_set KW.out (by have := HP.out; omega) _ _ _ _)
  rw [hw_]
  clear hw_
  clear a0 a1 a2 a3 b0 b1 b2 b3 r0 r1 r2 r3 af0 af1 af2 af3 bf0 bf1 bf2 bf3 rf0 rf1 rf2 rf3
  obtain ⟨a0, a1, a2, a3⟩ := HA.out.c
  obtain ⟨b0, b1, b2, b3⟩ := HB.out.c
  obtain ⟨r0, r1, r2, r3⟩ := HR.out.c
  have af0 := HA.out.f 0
  have af1 := HA.out.f 1
  have af2 := HA.out.f 2
  have af3 := HA.out.f 3
  have bf0 := HB.out.f 0
  have bf1 := HB.out.f 1
  have bf2 := HB.out.f 2
  have bf3 := HB.out.f 3
  have rf0 := HR.out.f 0
  have rf1 := HR.out.f 1
  have rf2 := HR.out.f 2
  have rf3 := HR.out.f 3
  go_wp2_with fail
  refine (HS _).mono ?_
  rintro e w3 ⟨rfl, k3⟩
  clear a0 a1 a2 a3 b0 b1 b2 b3 r0 r1 r2 r3 af0 af1 af2 af3 bf0 bf1 bf2 bf3 rf0 rf1 rf2 rf3
  have HA := Lib.hid (HA.out.on k3)
  have HB := Lib.hid (HB.out.on k3)
  have HR := Lib.hid (HR.out.on k3)
  have KW := Lib.hid (KW.out.on k3)
  clear k3
  obtain ⟨a0, a1, a2, a3⟩ := HA.out.c
  obtain ⟨b0, b1, b2, b3⟩ := HB.out.c
  obtain ⟨r0, r1, r2, r3⟩ := HR.out.c
  have af0 := HA.out.f 0
  have af1 := HA.out.f 1
  have af2 := HA.out.f 2
  have af3 := HA.out.f 3
  have bf0 := HB.out.f 0
  have bf1 := HB.out.f 1
  have bf2 := HB.out.f 2
  have bf3 := HB.out.f 3
  have rf0 := HR.out.f 0
  have rf1 := HR.out.f 1
  have rf2 := HR.out.f 2
  have rf3 := HR.out.f 3
  go_upto_region 30 with fail
  obtain ⟨wn, hwn⟩ : ∃ z, w3.alloc (.cells #[.int .i64 0, .int .i64 0, .string ⟨#[]⟩, .int .i64 0] 29) = z := ⟨_, rfl⟩
  have kn : Bl w3 wn := by rw [← hwn]; exact (Below.refl _ _).alloc (Nat.le_refl _) _
  have HT9 := Lib.hid (And.intro (show Four wn w3.heap.size (.int .i64 0) (.int .i64 0) (.string ⟨#[]⟩) (.int .i64 0) 29 from by rw [← hwn]; exact Four.new w3 _ _ _ _ _) (show w.heap.size ≤ w3.heap.size from KW.out.size))
  rw [hwn]
  clear hwn
  clear a0 a1 a2 a3 b0 b1 b2 b3 r0 r1 r2 r3 af0 af1 af2 af3 bf0 bf1 bf2 bf3 rf0 rf1 rf2 rf3
  have HA := Lib.hid (HA.out.on kn)
  have HB := Lib.hid (HB.out.on kn)
  have HR := Lib.hid (HR.out.on kn)
  have KW := Lib.hid (KW.out.on kn)
  clear kn
  obtain ⟨a0, a1, a2, a3⟩ := HA.out.c
  obtain ⟨b0, b1, b2, b3⟩ := HB.out.c
  obtain ⟨r0, r1, r2, r3⟩ := HR.out.c
  have af0 := HA.out.f 0
  have af1 := HA.out.f 1
  have af2 := HA.out.f 2
  have af3 := HA.out.f 3
  have bf0 := HB.out.f 0
  have bf1 := HB.out.f 1
  have bf2 := HB.out.f 2
  have bf3 := HB.out.f 3
  have rf0 := HR.out.f 0
  have rf1 := HR.out.f 1
  have rf2 := HR.out.f 2
  have rf3 := HR.out.f 3
  obtain ⟨t90, t91, t92, t93⟩ := HT9.out.1.c
  go_wp2_with fail
  refine (HQ _).mono ?_
  rintro e w4 ⟨rfl, k4⟩
  clear a0 a1 a2 a3 b0 b1 b2 b3 r0 r1 r2 r3 af0 af1 af2 af3 bf0 bf1 bf2 bf3 rf0 rf1 rf2 rf3
  have HA := Lib.hid (HA.out.on k4)
  have HB := Lib.hid (HB.out.on k4)
  have HR := Lib.hid (HR.out.on k4)
  have KW := Lib.hid (KW.out.on k4)
  clear k4
  obtain ⟨a0, a1, a2, a3⟩ := HA.out.c
  obtain ⟨b0, b1, b2, b3⟩ := HB.out.c
  obtain ⟨r0, r1, r2, r3⟩ := HR.out.c
  have af0 := HA.out.f 0
  have af1 := HA.out.f 1
  have af2 := HA.out.f 2
  have af3 := HA.out.f 3
  have bf0 := HB.out.f 0
  have bf1 := HB.out.f 1
  have bf2 := HB.out.f 2
  have bf3 := HB.out.f 3
  have rf0 := HR.out.f 0
  have rf1 := HR.out.f 1
  have rf2 := HR.out.f 2
  have rf3 := HR.out.f 3
  go_wp2_with fail
  refine bodyPost_ret (v := .tuple #[.agg #[.int .i64 ts, .int .i64 tn, .string tx, .int .i64 tt], .int .i64 er]) (by simp [results, Try.results12, go_sem, r0, r1, r2, r3]) rfl ⟨rfl, ?_⟩
  have K2 := KW.out
  have hp2 := HP.out
  repeat (first | exact K2 | refine Below.setCell ?_ (by simp <;> omega) _)
end Go.Proofs.Ytpnohljhpoildaa
