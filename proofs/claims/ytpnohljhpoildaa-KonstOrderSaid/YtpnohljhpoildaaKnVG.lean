/- KonstOrder, walked. -/
import Derived.Test.YtpnohljhpoildaaKnV
namespace Go.Proofs.Ytpnohljhpoildaa
open Go.RowKit
set_option maxHeartbeats 1000000
set_option maxRecDepth 100000
set_option linter.unusedVariables false
set_option linter.unusedSimpArgs false

theorem order_AG  (r s : RV) (hr : r.wf) (hs : s.wf) (hrx : r.x.size ≤ 9223372036854775807) (hsx : s.x.size ≤ 9223372036854775807) (hv : hvB r s = false) (a b : PV) (ea : anyP r = a) (eb : anyP s = b) (Hlt : doesP [60] a b = (.truth false, 0)) (Hgt : doesP [62] a b = (.truth true, 0)) (Heq : doesP [61] a b = (.truth false, 0)) (Hne : doesP [35] a b = (.truth true, 0)) (Hle : doesP [60, 61] a b = (.truth false, 0)) (Hge : doesP [62, 61] a b = (.truth true, 0)) (Htl : doesP [62] b a = (.truth false, 0)) (W : World) : Calls Try.prog 4 #[r.val, s.val] W fun e w' => e = .returned (.bool true) ∧ Below W.heap.size W w' := by
  have wa : a.wf := by rw [← ea]; exact anyP_wf r hr hrx
  have wb : b.wf := by rw [← eb]; exact anyP_wf s hs hsx
  have HV := heavy_any r s
  rw [hv] at HV
  have HA := any_any r hr
  have HB := any_any s hs
  rw [ea] at HA
  rw [eb] at HB
  have Dlt : ∀ w, Calls Try.prog 11 #[.string ⟨#[60]⟩, a.val, b.val] w fun e w' => e = .returned (.tuple #[.iface 48 (.bool false), .int .i64 0]) ∧ Bl w w' := fun w => by
    have h := Does_any [60] (by decide) a b wa wb w
    rw [Hlt] at h
    exact h
  have Dgt : ∀ w, Calls Try.prog 11 #[.string ⟨#[62]⟩, a.val, b.val] w fun e w' => e = .returned (.tuple #[.iface 48 (.bool true), .int .i64 0]) ∧ Bl w w' := fun w => by
    have h := Does_any [62] (by decide) a b wa wb w
    rw [Hgt] at h
    exact h
  have Deq : ∀ w, Calls Try.prog 11 #[.string ⟨#[61]⟩, a.val, b.val] w fun e w' => e = .returned (.tuple #[.iface 48 (.bool false), .int .i64 0]) ∧ Bl w w' := fun w => by
    have h := Does_any [61] (by decide) a b wa wb w
    rw [Heq] at h
    exact h
  have Dne : ∀ w, Calls Try.prog 11 #[.string ⟨#[35]⟩, a.val, b.val] w fun e w' => e = .returned (.tuple #[.iface 48 (.bool true), .int .i64 0]) ∧ Bl w w' := fun w => by
    have h := Does_any [35] (by decide) a b wa wb w
    rw [Hne] at h
    exact h
  have Dle : ∀ w, Calls Try.prog 11 #[.string ⟨#[60, 61]⟩, a.val, b.val] w fun e w' => e = .returned (.tuple #[.iface 48 (.bool false), .int .i64 0]) ∧ Bl w w' := fun w => by
    have h := Does_any [60, 61] (by decide) a b wa wb w
    rw [Hle] at h
    exact h
  have Dge : ∀ w, Calls Try.prog 11 #[.string ⟨#[62, 61]⟩, a.val, b.val] w fun e w' => e = .returned (.tuple #[.iface 48 (.bool true), .int .i64 0]) ∧ Bl w w' := fun w => by
    have h := Does_any [62, 61] (by decide) a b wa wb w
    rw [Hge] at h
    exact h
  have Dtl : ∀ w, Calls Try.prog 11 #[.string ⟨#[62]⟩, b.val, a.val] w fun e w' => e = .returned (.tuple #[.iface 48 (.bool false), .int .i64 0]) ∧ Bl w w' := fun w => by
    have h := Does_any [62] (by decide) b a wb wa w
    rw [Htl] at h
    exact h
  have Strue : ∀ w, Calls Try.prog 15 #[.iface 48 (.bool true), .agg #[.int .i64 3, .int .i64 1, .string ⟨#[]⟩, .int .i64 0]] w fun e w' => e = .returned (.bool true) ∧ Bl w w' := fun w => same_is true w
  have Sfalse : ∀ w, Calls Try.prog 15 #[.iface 48 (.bool false), .agg #[.int .i64 3, .int .i64 1, .string ⟨#[]⟩, .int .i64 0]] w fun e w' => e = .returned (.bool false) ∧ Bl w w' := fun w => same_is false w
  obtain ⟨av, hav⟩ : ∃ v, a.val = v := ⟨_, rfl⟩
  obtain ⟨bv, hbv⟩ : ∃ v, b.val = v := ⟨_, rfl⟩
  rw [hav] at HA Dlt Dgt Deq Dne Dle Dge Dtl
  rw [hbv] at HB Dlt Dgt Deq Dne Dle Dge Dtl
  clear hav hbv ea eb wa wb hr hs hrx hsx hv Hlt Hgt Heq Hne Hle Hge Htl
  obtain ⟨rk, rn, rx, rt⟩ := r
  obtain ⟨sk, sn, sx, st⟩ := s
  unfold RV.val at *
  obtain ⟨W2, hW2⟩ : ∃ W2, (W.alloc (.cells #[.int .u8 rk, .int .i64 rn, .string rx, .int .i64 rt] 23)).alloc (.cells #[.int .u8 sk, .int .i64 sn, .string sx, .int .i64 st] 23) = W2 := ⟨_, rfl⟩
  have X := (Four.new W (.int .u8 rk) (.int .i64 rn) (.string rx) (.int .i64 rt) 23).on ((Below.refl _ _).alloc (Nat.le_refl _) (.cells #[.int .u8 sk, .int .i64 sn, .string sx, .int .i64 st] 23))
  have Y := Four.new (W.alloc (.cells #[.int .u8 rk, .int .i64 rn, .string rx, .int .i64 rt] 23)) (.int .u8 sk) (.int .i64 sn) (.string sx) (.int .i64 st) 23
  have kW : Below W.heap.size W W2 := by rw [← hW2]; exact ((Below.refl _ _).alloc (Nat.le_refl _) _).alloc (by simp) _
  simp only [World.size_alloc] at Y
  rw [hW2] at X Y
  obtain ⟨p, hp⟩ : ∃ p, W.heap.size = p := ⟨_, rfl⟩
  rw [hp] at X Y
  have HP := Lib.hid hp
  have KW := Lib.hid kW
  have HX := Lib.hid (And.intro X Y)
  have x2 := X.c
  have y2 := Y.c
  obtain ⟨x20, x21, x22, x23⟩ := x2
  obtain ⟨y20, y21, y22, y23⟩ := y2
  clear X Y kW
  go_enter Try.func4, Try.ntmps4
  go_wp2_with fail
  try rw [hW2]
  try simp only [hp]
  clear hp hW2
  refine (HV _).mono ?_
  rintro e w0 ⟨rfl, k0⟩
  have HX := Lib.hid (And.intro (HX.out.1.on k0) (HX.out.2.on k0))
  have KW := Lib.hid (KW.out.trans (k0.mono KW.out.size))
  clear k0 HV x20 x21 x22 x23 y20 y21 y22 y23
  have x0 := HX.out.1.c
  have y0 := HX.out.2.c
  go_wp2_with fail
  have hfw : Try.prog.follows .mixedOrders = true := by kernel_rfl
  refine region_l 5 (S := fun w' => (w'.cell? ⟨p, 0, none⟩ = some (.int .u8 rk) ∧ w'.cell? ⟨p, 1, none⟩ = some (.int .i64 rn) ∧ w'.cell? ⟨p, 2, none⟩ = some (.string rx) ∧ w'.cell? ⟨p, 3, none⟩ = some (.int .i64 rt)) ∧ (w'.cell? ⟨(p + 1), 0, none⟩ = some (.int .u8 sk) ∧ w'.cell? ⟨(p + 1), 1, none⟩ = some (.int .i64 sn) ∧ w'.cell? ⟨(p + 1), 2, none⟩ = some (.string sx) ∧ w'.cell? ⟨(p + 1), 3, none⟩ = some (.int .i64 st))) hfw ?_ (fun hHeld => ?_)
  · exact ⟨x0, y0⟩
  refine anyL_take (k := 60) (i := 0) (v := ?_) rfl (by kernel_rfl) (by kernel_rfl) (by kernel_rfl) (by kernel_rfl) (fun _ _ _ h => h) (Or.inl ⟨by rfl, ?_⟩) (by assumption) ?_
  rotate_left
  · intro w hSw; (try dsimp only at hSw); go_simp; try with_reducible rfl
  try simp only [Act.put, List.setIfInBounds_toArray, List.set_cons_zero, List.set_cons_succ, List.getElem_toArray, List.getElem_cons_zero, List.getElem_cons_succ]
  refine anyL_take (k := 60) (i := 2) (v := ?_) rfl (by kernel_rfl) (by kernel_rfl) (by kernel_rfl) (by kernel_rfl) (fun _ _ _ h => h) (Or.inl ⟨by rfl, ?_⟩) (by assumption) ?_
  rotate_left
  · intro w hSw; (try dsimp only at hSw); go_simp; try with_reducible rfl
  try simp only [Act.put, List.setIfInBounds_toArray, List.set_cons_zero, List.set_cons_succ, List.getElem_toArray, List.getElem_cons_zero, List.getElem_cons_succ]
  refine anyL_ready (rs := [1]) (by kernel_rfl) (by simp) ?_
  refine AllL.cons rfl (fun K hK => ?_) ?_
  rotate_left
  · exact AllL.nil
  go_simp
  refine (HA _).mono ?_
  rintro e w1 ⟨rfl, k1⟩
  have HX := Lib.hid (And.intro (HX.out.1.on (Bl.on (Below.drew (Below.refl _ w0)) k1)) (HX.out.2.on (Bl.on (Below.drew (Below.refl _ w0)) k1)))
  have KW := Lib.hid (KW.out.trans ((Bl.on (Below.drew (Below.refl _ w0)) k1).mono KW.out.size))
  have hS9 := And.intro HX.out.1.c HX.out.2.c
  go_wp2_with fail
  refine hK.out _ _ hS9 (fun hHeld => ?_)
  clear hK K
  try simp only [Act.put, List.setIfInBounds_toArray, List.set_cons_zero, List.set_cons_succ, List.getElem_toArray, List.getElem_cons_zero, List.getElem_cons_succ]
  refine anyL_ready (rs := [3]) (by kernel_rfl) (by simp) ?_
  refine AllL.cons rfl (fun K hK => ?_) ?_
  rotate_left
  · exact AllL.nil
  go_simp
  refine (HB _).mono ?_
  rintro e w2 ⟨rfl, k2⟩
  have HX := Lib.hid (And.intro (HX.out.1.on k2) (HX.out.2.on k2))
  have KW := Lib.hid (KW.out.trans (k2.mono KW.out.size))
  have hS9 := And.intro HX.out.1.c HX.out.2.c
  go_wp2_with fail
  refine hK.out _ _ hS9 (fun hHeld => ?_)
  clear hK K
  try simp only [Act.put, List.setIfInBounds_toArray, List.set_cons_zero, List.set_cons_succ, List.getElem_toArray, List.getElem_cons_zero, List.getElem_cons_succ]
  refine anyL_take (k := 60) (i := 4) (v := ?_) rfl (by kernel_rfl) (by kernel_rfl) (by kernel_rfl) (by kernel_rfl) (fun _ _ _ h => h) (Or.inl ⟨by rfl, ?_⟩) (by assumption) ?_
  rotate_left
  · intro w hSw; (try dsimp only at hSw); go_simp; try with_reducible rfl
  try simp only [Act.put, List.setIfInBounds_toArray, List.set_cons_zero, List.set_cons_succ, List.getElem_toArray, List.getElem_cons_zero, List.getElem_cons_succ]
  refine anyL_ready (rs := [5]) (by kernel_rfl) (by simp) ?_
  refine AllL.last rfl (by kernel_rfl) (fun K hK => ?_) ?_
  rotate_left
  · exact AllL.nil
  go_simp
  refine hK.out _ _ ?_
  clear hK K
  try simp only [Act.put, List.setIfInBounds_toArray, List.set_cons_zero, List.set_cons_succ, List.getElem_toArray, List.getElem_cons_zero, List.getElem_cons_succ]
  refine anyL_done (by kernel_rfl) ?_ _
  clear HX HA HB k1 k2 x0 y0 hS9
  go_wp2_with fail
  refine (Dlt _).mono ?_
  rintro e d0 ⟨rfl, kd⟩
  have KW := Lib.hid (KW.out.trans (kd.mono KW.out.size))
  clear kd Dlt
  go_wp2_with fail
  refine (Dgt _).mono ?_
  rintro e d1 ⟨rfl, kd⟩
  have KW := Lib.hid (KW.out.trans (kd.mono KW.out.size))
  clear kd Dgt
  go_wp2_with fail
  refine (Deq _).mono ?_
  rintro e d2 ⟨rfl, kd⟩
  have KW := Lib.hid (KW.out.trans (kd.mono KW.out.size))
  clear kd Deq
  go_wp2_with fail
  refine (Dne _).mono ?_
  rintro e d3 ⟨rfl, kd⟩
  have KW := Lib.hid (KW.out.trans (kd.mono KW.out.size))
  clear kd Dne
  go_wp2_with fail
  refine (Dle _).mono ?_
  rintro e d4 ⟨rfl, kd⟩
  have KW := Lib.hid (KW.out.trans (kd.mono KW.out.size))
  clear kd Dle
  go_wp2_with fail
  refine (Dge _).mono ?_
  rintro e d5 ⟨rfl, kd⟩
  have KW := Lib.hid (KW.out.trans (kd.mono KW.out.size))
  clear kd Dge
  go_wp2_with fail
  refine (Dtl _).mono ?_
  rintro e d6 ⟨rfl, kd⟩
  have KW := Lib.hid (KW.out.trans (kd.mono KW.out.size))
  clear kd Dtl
  go_wp2_with fail
  obtain ⟨dw, hdw⟩ : ∃ dw, d6.alloc (.cells #[.int .i64 3, .int .i64 1, .string ⟨#[]⟩, .int .i64 0] 29) = dw := ⟨_, rfl⟩
  have HY := Lib.hid (show Four dw d6.heap.size (.int .i64 3) (.int .i64 1) (.string ⟨#[]⟩) (.int .i64 0) 29 from by rw [← hdw]; exact Four.new d6 _ _ _ _ _)
  have KW := Lib.hid (show Below W.heap.size W dw from by rw [← hdw]; exact KW.out.alloc KW.out.size _)
  obtain ⟨yb, hyb⟩ : ∃ yb, d6.heap.size = yb := ⟨_, rfl⟩
  rw [hyb] at HY
  have c9 := HY.out.c
  try rw [hdw]
  try simp only [hyb]
  clear hdw hyb
  refine region_l 10 (S := fun w' => (w'.cell? ⟨yb, 0, none⟩ = some (.int .i64 3) ∧ w'.cell? ⟨yb, 1, none⟩ = some (.int .i64 1) ∧ w'.cell? ⟨yb, 2, none⟩ = some (.string ⟨#[]⟩) ∧ w'.cell? ⟨yb, 3, none⟩ = some (.int .i64 0))) hfw ?_ (fun hHeld => ?_)
  · exact c9
  refine anyL_take (k := 60) (i := 0) (v := ?_) rfl (by kernel_rfl) (by kernel_rfl) (by kernel_rfl) (by kernel_rfl) (fun _ _ _ h => h) (Or.inl ⟨by rfl, ?_⟩) (by assumption) ?_
  rotate_left
  · intro w hSw; (try dsimp only at hSw); go_simp; try with_reducible rfl
  try simp only [Act.put, List.setIfInBounds_toArray, List.set_cons_zero, List.set_cons_succ, List.getElem_toArray, List.getElem_cons_zero, List.getElem_cons_succ]
  refine anyL_take (k := 60) (i := 1) (v := ?_) rfl (by kernel_rfl) (by kernel_rfl) (by kernel_rfl) (by kernel_rfl) (fun _ _ _ h => h) (Or.inl ⟨by rfl, ?_⟩) (by assumption) ?_
  rotate_left
  · intro w hSw; (try dsimp only at hSw); go_simp; try with_reducible rfl
  try simp only [Act.put, List.setIfInBounds_toArray, List.set_cons_zero, List.set_cons_succ, List.getElem_toArray, List.getElem_cons_zero, List.getElem_cons_succ]
  refine anyL_take (k := 60) (i := 2) (v := ?_) rfl (by kernel_rfl) (by kernel_rfl) (by kernel_rfl) (by kernel_rfl) (fun _ _ _ h => h) (Or.inl ⟨by rfl, ?_⟩) (by assumption) ?_
  rotate_left
  · intro w hSw; (try dsimp only at hSw); go_simp; try with_reducible rfl
  try simp only [Act.put, List.setIfInBounds_toArray, List.set_cons_zero, List.set_cons_succ, List.getElem_toArray, List.getElem_cons_zero, List.getElem_cons_succ]
  refine anyL_take (k := 60) (i := 3) (v := ?_) rfl (by kernel_rfl) (by kernel_rfl) (by kernel_rfl) (by kernel_rfl) (fun _ _ _ h => h) (Or.inl ⟨by rfl, ?_⟩) (by assumption) ?_
  rotate_left
  · intro w hSw; (try dsimp only at hSw); go_simp; try with_reducible rfl
  try simp only [Act.put, List.setIfInBounds_toArray, List.set_cons_zero, List.set_cons_succ, List.getElem_toArray, List.getElem_cons_zero, List.getElem_cons_succ]
  refine anyL_take (k := 60) (i := 4) (v := ?_) rfl (by kernel_rfl) (by kernel_rfl) (by kernel_rfl) (by kernel_rfl) (fun _ _ _ h => h) (Or.inl ⟨by rfl, ?_⟩) (by assumption) ?_
  rotate_left
  · intro w hSw; (try dsimp only at hSw); go_simp; try with_reducible rfl
  try simp only [Act.put, List.setIfInBounds_toArray, List.set_cons_zero, List.set_cons_succ, List.getElem_toArray, List.getElem_cons_zero, List.getElem_cons_succ]
  refine anyL_take (k := 60) (i := 6) (v := ?_) rfl (by kernel_rfl) (by kernel_rfl) (by kernel_rfl) (by kernel_rfl) (fun _ _ _ h => h) (Or.inl ⟨by rfl, ?_⟩) (by assumption) ?_
  rotate_left
  · intro w hSw; (try dsimp only at hSw); go_simp; try with_reducible rfl
  try simp only [Act.put, List.setIfInBounds_toArray, List.set_cons_zero, List.set_cons_succ, List.getElem_toArray, List.getElem_cons_zero, List.getElem_cons_succ]
  refine anyL_take (k := 60) (i := 7) (v := ?_) rfl (by kernel_rfl) (by kernel_rfl) (by kernel_rfl) (by kernel_rfl) (fun _ _ _ h => h) (Or.inl ⟨by rfl, ?_⟩) (by assumption) ?_
  rotate_left
  · intro w hSw; (try dsimp only at hSw); go_simp; try with_reducible rfl
  try simp only [Act.put, List.setIfInBounds_toArray, List.set_cons_zero, List.set_cons_succ, List.getElem_toArray, List.getElem_cons_zero, List.getElem_cons_succ]
  refine anyL_ready (rs := [5]) (by kernel_rfl) (by simp) ?_
  refine AllL.cons rfl (fun K hK => ?_) ?_
  rotate_left
  · exact AllL.nil
  go_simp
  refine (Sfalse _).mono ?_
  rintro e u1 ⟨rfl, k1⟩
  have HY := Lib.hid (HY.out.on (Bl.on (Below.drew (Below.refl _ dw)) k1))
  have KW := Lib.hid (KW.out.trans ((Bl.on (Below.drew (Below.refl _ dw)) k1).mono KW.out.size))
  have hS9 := HY.out.c
  go_wp2_with fail
  refine hK.out _ _ hS9 (fun hHeld => ?_)
  clear hK K
  try simp only [Act.put, List.setIfInBounds_toArray, List.set_cons_zero, List.set_cons_succ, List.getElem_toArray, List.getElem_cons_zero, List.getElem_cons_succ]
  refine anyL_ready (rs := [8]) (by kernel_rfl) (by simp) ?_
  refine AllL.cons rfl (fun K hK => ?_) ?_
  rotate_left
  · exact AllL.nil
  go_simp
  refine (Strue _).mono ?_
  rintro e u2 ⟨rfl, k2⟩
  have HY := Lib.hid (HY.out.on k2)
  have KW := Lib.hid (KW.out.trans (k2.mono KW.out.size))
  have hS9 := HY.out.c
  go_wp2_with fail
  refine hK.out _ _ hS9 (fun hHeld => ?_)
  clear hK K
  try simp only [Act.put, List.setIfInBounds_toArray, List.set_cons_zero, List.set_cons_succ, List.getElem_toArray, List.getElem_cons_zero, List.getElem_cons_succ]
  refine anyL_take (k := 60) (i := 9) (v := ?_) rfl (by kernel_rfl) (by kernel_rfl) (by kernel_rfl) (by kernel_rfl) (fun _ _ _ h => h) (Or.inl ⟨by rfl, ?_⟩) (by assumption) ?_
  rotate_left
  · intro w hSw; (try dsimp only at hSw); go_simp; try with_reducible rfl
  try simp only [Act.put, List.setIfInBounds_toArray, List.set_cons_zero, List.set_cons_succ, List.getElem_toArray, List.getElem_cons_zero, List.getElem_cons_succ]
  refine anyL_ready (rs := [10]) (by kernel_rfl) (by simp) ?_
  refine AllL.last rfl (by kernel_rfl) (fun K hK => ?_) ?_
  rotate_left
  · exact AllL.nil
  go_simp
  refine hK.out _ _ ?_
  clear hK K
  try simp only [Act.put, List.setIfInBounds_toArray, List.set_cons_zero, List.set_cons_succ, List.getElem_toArray, List.getElem_cons_zero, List.getElem_cons_succ]
  refine anyL_done (by kernel_rfl) ?_ _
  clear k1 k2 hS9
  have c9 := HY.out.c
  obtain ⟨c90, c91, c92, c93⟩ := c9
  go_wp2_with fail
  refine (Sfalse _).mono ?_
  rintro e v1 ⟨rfl, kk⟩
  have HY := Lib.hid (HY.out.on kk)
  have KW := Lib.hid (KW.out.trans (kk.mono KW.out.size))
  have c9 := HY.out.c
  clear kk c90 c91 c92 c93
  obtain ⟨c90, c91, c92, c93⟩ := c9
  go_wp2_with fail
  refine (Strue _).mono ?_
  rintro e v2 ⟨rfl, kk⟩
  have HY := Lib.hid (HY.out.on kk)
  have KW := Lib.hid (KW.out.trans (kk.mono KW.out.size))
  have c9 := HY.out.c
  clear kk c90 c91 c92 c93
  obtain ⟨c90, c91, c92, c93⟩ := c9
  go_wp2_with fail
  refine (Sfalse _).mono ?_
  rintro e v3 ⟨rfl, kk⟩
  have HY := Lib.hid (HY.out.on kk)
  have KW := Lib.hid (KW.out.trans (kk.mono KW.out.size))
  have c9 := HY.out.c
  clear kk c90 c91 c92 c93
  go_wp2_with fail
  refine region_l 34 (S := fun w' => (w'.cell? ⟨yb, 0, none⟩ = some (.int .i64 3) ∧ w'.cell? ⟨yb, 1, none⟩ = some (.int .i64 1) ∧ w'.cell? ⟨yb, 2, none⟩ = some (.string ⟨#[]⟩) ∧ w'.cell? ⟨yb, 3, none⟩ = some (.int .i64 0))) hfw ?_ (fun hHeld => ?_)
  · exact c9
  refine anyL_take (k := 60) (i := 0) (v := ?_) rfl (by kernel_rfl) (by kernel_rfl) (by kernel_rfl) (by kernel_rfl) (fun _ _ _ h => h) (Or.inl ⟨by rfl, ?_⟩) (by assumption) ?_
  rotate_left
  · intro w hSw; (try dsimp only at hSw); go_simp; try with_reducible rfl
  try simp only [Act.put, List.setIfInBounds_toArray, List.set_cons_zero, List.set_cons_succ, List.getElem_toArray, List.getElem_cons_zero, List.getElem_cons_succ]
  refine anyL_take (k := 60) (i := 1) (v := ?_) rfl (by kernel_rfl) (by kernel_rfl) (by kernel_rfl) (by kernel_rfl) (fun _ _ _ h => h) (Or.inl ⟨by rfl, ?_⟩) (by assumption) ?_
  rotate_left
  · intro w hSw; (try dsimp only at hSw); go_simp; try with_reducible rfl
  try simp only [Act.put, List.setIfInBounds_toArray, List.set_cons_zero, List.set_cons_succ, List.getElem_toArray, List.getElem_cons_zero, List.getElem_cons_succ]
  refine anyL_take (k := 60) (i := 2) (v := ?_) rfl (by kernel_rfl) (by kernel_rfl) (by kernel_rfl) (by kernel_rfl) (fun _ _ _ h => h) (Or.inl ⟨by rfl, ?_⟩) (by assumption) ?_
  rotate_left
  · intro w hSw; (try dsimp only at hSw); go_simp; try with_reducible rfl
  try simp only [Act.put, List.setIfInBounds_toArray, List.set_cons_zero, List.set_cons_succ, List.getElem_toArray, List.getElem_cons_zero, List.getElem_cons_succ]
  refine anyL_take (k := 60) (i := 3) (v := ?_) rfl (by kernel_rfl) (by kernel_rfl) (by kernel_rfl) (by kernel_rfl) (fun _ _ _ h => h) (Or.inl ⟨by rfl, ?_⟩) (by assumption) ?_
  rotate_left
  · intro w hSw; (try dsimp only at hSw); go_simp; try with_reducible rfl
  try simp only [Act.put, List.setIfInBounds_toArray, List.set_cons_zero, List.set_cons_succ, List.getElem_toArray, List.getElem_cons_zero, List.getElem_cons_succ]
  refine anyL_take (k := 60) (i := 4) (v := ?_) rfl (by kernel_rfl) (by kernel_rfl) (by kernel_rfl) (by kernel_rfl) (fun _ _ _ h => h) (Or.inl ⟨by rfl, ?_⟩) (by assumption) ?_
  rotate_left
  · intro w hSw; (try dsimp only at hSw); go_simp; try with_reducible rfl
  try simp only [Act.put, List.setIfInBounds_toArray, List.set_cons_zero, List.set_cons_succ, List.getElem_toArray, List.getElem_cons_zero, List.getElem_cons_succ]
  refine anyL_take (k := 60) (i := 6) (v := ?_) rfl (by kernel_rfl) (by kernel_rfl) (by kernel_rfl) (by kernel_rfl) (fun _ _ _ h => h) (Or.inl ⟨by rfl, ?_⟩) (by assumption) ?_
  rotate_left
  · intro w hSw; (try dsimp only at hSw); go_simp; try with_reducible rfl
  try simp only [Act.put, List.setIfInBounds_toArray, List.set_cons_zero, List.set_cons_succ, List.getElem_toArray, List.getElem_cons_zero, List.getElem_cons_succ]
  refine anyL_take (k := 60) (i := 7) (v := ?_) rfl (by kernel_rfl) (by kernel_rfl) (by kernel_rfl) (by kernel_rfl) (fun _ _ _ h => h) (Or.inl ⟨by rfl, ?_⟩) (by assumption) ?_
  rotate_left
  · intro w hSw; (try dsimp only at hSw); go_simp; try with_reducible rfl
  try simp only [Act.put, List.setIfInBounds_toArray, List.set_cons_zero, List.set_cons_succ, List.getElem_toArray, List.getElem_cons_zero, List.getElem_cons_succ]
  refine anyL_ready (rs := [5]) (by kernel_rfl) (by simp) ?_
  refine AllL.cons rfl (fun K hK => ?_) ?_
  rotate_left
  · exact AllL.nil
  go_simp
  refine (Sfalse _).mono ?_
  rintro e t1 ⟨rfl, k1⟩
  have HY := Lib.hid (HY.out.on (Bl.on (Below.drew (Below.refl _ v3)) k1))
  have KW := Lib.hid (KW.out.trans (((Bl.on (Below.drew (Below.refl _ v3)) k1) : Bl _ _).mono KW.out.size))
  have hS9 := HY.out.c
  go_wp2_with fail
  refine hK.out _ _ hS9 (fun hHeld => ?_)
  clear hK K
  try simp only [Act.put, List.setIfInBounds_toArray, List.set_cons_zero, List.set_cons_succ, List.getElem_toArray, List.getElem_cons_zero, List.getElem_cons_succ]
  refine anyL_ready (rs := [8]) (by kernel_rfl) (by simp) ?_
  refine AllL.cons rfl (fun K hK => ?_) ?_
  rotate_left
  · exact AllL.nil
  go_simp
  refine (Strue _).mono ?_
  rintro e t2 ⟨rfl, k2⟩
  have HY := Lib.hid (HY.out.on k2)
  have KW := Lib.hid (KW.out.trans ((k2 : Bl _ _).mono KW.out.size))
  have hS9 := HY.out.c
  go_wp2_with fail
  refine hK.out _ _ hS9 (fun hHeld => ?_)
  clear hK K
  try simp only [Act.put, List.setIfInBounds_toArray, List.set_cons_zero, List.set_cons_succ, List.getElem_toArray, List.getElem_cons_zero, List.getElem_cons_succ]
  refine anyL_take (k := 60) (i := 9) (v := ?_) rfl (by kernel_rfl) (by kernel_rfl) (by kernel_rfl) (by kernel_rfl) (fun _ _ _ h => h) (Or.inl ⟨by rfl, ?_⟩) (by assumption) ?_
  rotate_left
  · intro w hSw; (try dsimp only at hSw); go_simp; try with_reducible rfl
  try simp only [Act.put, List.setIfInBounds_toArray, List.set_cons_zero, List.set_cons_succ, List.getElem_toArray, List.getElem_cons_zero, List.getElem_cons_succ]
  refine anyL_take (k := 60) (i := 10) (v := ?_) rfl (by kernel_rfl) (by kernel_rfl) (by kernel_rfl) (by kernel_rfl) (fun _ _ _ h => h) (Or.inl ⟨by rfl, ?_⟩) (by assumption) ?_
  rotate_left
  · intro w hSw; (try dsimp only at hSw); go_simp; try with_reducible rfl
  try simp only [Act.put, List.setIfInBounds_toArray, List.set_cons_zero, List.set_cons_succ, List.getElem_toArray, List.getElem_cons_zero, List.getElem_cons_succ]
  refine anyL_take (k := 60) (i := 11) (v := ?_) rfl (by kernel_rfl) (by kernel_rfl) (by kernel_rfl) (by kernel_rfl) (fun _ _ _ h => h) (Or.inl ⟨by rfl, ?_⟩) (by assumption) ?_
  rotate_left
  · intro w hSw; (try dsimp only at hSw); go_simp; try with_reducible rfl
  try simp only [Act.put, List.setIfInBounds_toArray, List.set_cons_zero, List.set_cons_succ, List.getElem_toArray, List.getElem_cons_zero, List.getElem_cons_succ]
  refine anyL_take (k := 60) (i := 12) (v := ?_) rfl (by kernel_rfl) (by kernel_rfl) (by kernel_rfl) (by kernel_rfl) (fun _ _ _ h => h) (Or.inl ⟨by rfl, ?_⟩) (by assumption) ?_
  rotate_left
  · intro w hSw; (try dsimp only at hSw); go_simp; try with_reducible rfl
  try simp only [Act.put, List.setIfInBounds_toArray, List.set_cons_zero, List.set_cons_succ, List.getElem_toArray, List.getElem_cons_zero, List.getElem_cons_succ]
  refine anyL_take (k := 60) (i := 13) (v := ?_) rfl (by kernel_rfl) (by kernel_rfl) (by kernel_rfl) (by kernel_rfl) (fun _ _ _ h => h) (Or.inl ⟨by rfl, ?_⟩) (by assumption) ?_
  rotate_left
  · intro w hSw; (try dsimp only at hSw); go_simp; try with_reducible rfl
  try simp only [Act.put, List.setIfInBounds_toArray, List.set_cons_zero, List.set_cons_succ, List.getElem_toArray, List.getElem_cons_zero, List.getElem_cons_succ]
  refine anyL_take (k := 60) (i := 14) (v := ?_) rfl (by kernel_rfl) (by kernel_rfl) (by kernel_rfl) (by kernel_rfl) (fun _ _ _ h => h) (Or.inl ⟨by rfl, ?_⟩) (by assumption) ?_
  rotate_left
  · intro w hSw; (try dsimp only at hSw); go_simp; try with_reducible rfl
  try simp only [Act.put, List.setIfInBounds_toArray, List.set_cons_zero, List.set_cons_succ, List.getElem_toArray, List.getElem_cons_zero, List.getElem_cons_succ]
  refine anyL_take (k := 60) (i := 16) (v := ?_) rfl (by kernel_rfl) (by kernel_rfl) (by kernel_rfl) (by kernel_rfl) (fun _ _ _ h => h) (Or.inl ⟨by rfl, ?_⟩) (by assumption) ?_
  rotate_left
  · intro w hSw; (try dsimp only at hSw); go_simp; try with_reducible rfl
  try simp only [Act.put, List.setIfInBounds_toArray, List.set_cons_zero, List.set_cons_succ, List.getElem_toArray, List.getElem_cons_zero, List.getElem_cons_succ]
  refine anyL_take (k := 60) (i := 17) (v := ?_) rfl (by kernel_rfl) (by kernel_rfl) (by kernel_rfl) (by kernel_rfl) (fun _ _ _ h => h) (Or.inl ⟨by rfl, ?_⟩) (by assumption) ?_
  rotate_left
  · intro w hSw; (try dsimp only at hSw); go_simp; try with_reducible rfl
  try simp only [Act.put, List.setIfInBounds_toArray, List.set_cons_zero, List.set_cons_succ, List.getElem_toArray, List.getElem_cons_zero, List.getElem_cons_succ]
  refine anyL_ready (rs := [15]) (by kernel_rfl) (by simp) ?_
  refine AllL.cons rfl (fun K hK => ?_) ?_
  rotate_left
  · exact AllL.nil
  go_simp
  refine (Strue _).mono ?_
  rintro e t3 ⟨rfl, k3⟩
  have HY := Lib.hid (HY.out.on k3)
  have KW := Lib.hid (KW.out.trans ((k3 : Bl _ _).mono KW.out.size))
  have hS9 := HY.out.c
  go_wp2_with fail
  refine hK.out _ _ hS9 (fun hHeld => ?_)
  clear hK K
  try simp only [Act.put, List.setIfInBounds_toArray, List.set_cons_zero, List.set_cons_succ, List.getElem_toArray, List.getElem_cons_zero, List.getElem_cons_succ]
  refine anyL_ready (rs := [18]) (by kernel_rfl) (by simp) ?_
  refine AllL.cons rfl (fun K hK => ?_) ?_
  rotate_left
  · exact AllL.nil
  go_simp
  refine (Sfalse _).mono ?_
  rintro e t4 ⟨rfl, k4⟩
  have HY := Lib.hid (HY.out.on k4)
  have KW := Lib.hid (KW.out.trans ((k4 : Bl _ _).mono KW.out.size))
  have hS9 := HY.out.c
  go_wp2_with fail
  refine hK.out _ _ hS9 (fun hHeld => ?_)
  clear hK K
  try simp only [Act.put, List.setIfInBounds_toArray, List.set_cons_zero, List.set_cons_succ, List.getElem_toArray, List.getElem_cons_zero, List.getElem_cons_succ]
  refine anyL_take (k := 60) (i := 19) (v := ?_) rfl (by kernel_rfl) (by kernel_rfl) (by kernel_rfl) (by kernel_rfl) (fun _ _ _ h => h) (Or.inl ⟨by rfl, ?_⟩) (by assumption) ?_
  rotate_left
  · intro w hSw; (try dsimp only at hSw); go_simp; try with_reducible rfl
  try simp only [Act.put, List.setIfInBounds_toArray, List.set_cons_zero, List.set_cons_succ, List.getElem_toArray, List.getElem_cons_zero, List.getElem_cons_succ]
  refine anyL_take (k := 60) (i := 20) (v := ?_) rfl (by kernel_rfl) (by kernel_rfl) (by kernel_rfl) (by kernel_rfl) (fun _ _ _ h => h) (Or.inl ⟨by rfl, ?_⟩) (by assumption) ?_
  rotate_left
  · intro w hSw; (try dsimp only at hSw); go_simp; try with_reducible rfl
  try simp only [Act.put, List.setIfInBounds_toArray, List.set_cons_zero, List.set_cons_succ, List.getElem_toArray, List.getElem_cons_zero, List.getElem_cons_succ]
  refine anyL_take (k := 60) (i := 21) (v := ?_) rfl (by kernel_rfl) (by kernel_rfl) (by kernel_rfl) (by kernel_rfl) (fun _ _ _ h => h) (Or.inl ⟨by rfl, ?_⟩) (by assumption) ?_
  rotate_left
  · intro w hSw; (try dsimp only at hSw); go_simp; try with_reducible rfl
  try simp only [Act.put, List.setIfInBounds_toArray, List.set_cons_zero, List.set_cons_succ, List.getElem_toArray, List.getElem_cons_zero, List.getElem_cons_succ]
  refine anyL_take (k := 60) (i := 22) (v := ?_) rfl (by kernel_rfl) (by kernel_rfl) (by kernel_rfl) (by kernel_rfl) (fun _ _ _ h => h) (Or.inl ⟨by rfl, ?_⟩) (by assumption) ?_
  rotate_left
  · intro w hSw; (try dsimp only at hSw); go_simp; try with_reducible rfl
  try simp only [Act.put, List.setIfInBounds_toArray, List.set_cons_zero, List.set_cons_succ, List.getElem_toArray, List.getElem_cons_zero, List.getElem_cons_succ]
  refine anyL_take (k := 60) (i := 23) (v := ?_) rfl (by kernel_rfl) (by kernel_rfl) (by kernel_rfl) (by kernel_rfl) (fun _ _ _ h => h) (Or.inl ⟨by rfl, ?_⟩) (by assumption) ?_
  rotate_left
  · intro w hSw; (try dsimp only at hSw); go_simp; try with_reducible rfl
  try simp only [Act.put, List.setIfInBounds_toArray, List.set_cons_zero, List.set_cons_succ, List.getElem_toArray, List.getElem_cons_zero, List.getElem_cons_succ]
  refine anyL_take (k := 60) (i := 24) (v := ?_) rfl (by kernel_rfl) (by kernel_rfl) (by kernel_rfl) (by kernel_rfl) (fun _ _ _ h => h) (Or.inl ⟨by rfl, ?_⟩) (by assumption) ?_
  rotate_left
  · intro w hSw; (try dsimp only at hSw); go_simp; try with_reducible rfl
  try simp only [Act.put, List.setIfInBounds_toArray, List.set_cons_zero, List.set_cons_succ, List.getElem_toArray, List.getElem_cons_zero, List.getElem_cons_succ]
  refine anyL_take (k := 60) (i := 26) (v := ?_) rfl (by kernel_rfl) (by kernel_rfl) (by kernel_rfl) (by kernel_rfl) (fun _ _ _ h => h) (Or.inl ⟨by rfl, ?_⟩) (by assumption) ?_
  rotate_left
  · intro w hSw; (try dsimp only at hSw); go_simp; try with_reducible rfl
  try simp only [Act.put, List.setIfInBounds_toArray, List.set_cons_zero, List.set_cons_succ, List.getElem_toArray, List.getElem_cons_zero, List.getElem_cons_succ]
  refine anyL_take (k := 60) (i := 27) (v := ?_) rfl (by kernel_rfl) (by kernel_rfl) (by kernel_rfl) (by kernel_rfl) (fun _ _ _ h => h) (Or.inl ⟨by rfl, ?_⟩) (by assumption) ?_
  rotate_left
  · intro w hSw; (try dsimp only at hSw); go_simp; try with_reducible rfl
  try simp only [Act.put, List.setIfInBounds_toArray, List.set_cons_zero, List.set_cons_succ, List.getElem_toArray, List.getElem_cons_zero, List.getElem_cons_succ]
  refine anyL_ready (rs := [25]) (by kernel_rfl) (by simp) ?_
  refine AllL.cons rfl (fun K hK => ?_) ?_
  rotate_left
  · exact AllL.nil
  go_simp
  refine (Sfalse _).mono ?_
  rintro e t5 ⟨rfl, k5⟩
  have HY := Lib.hid (HY.out.on k5)
  have KW := Lib.hid (KW.out.trans ((k5 : Bl _ _).mono KW.out.size))
  have hS9 := HY.out.c
  go_wp2_with fail
  refine hK.out _ _ hS9 (fun hHeld => ?_)
  clear hK K
  try simp only [Act.put, List.setIfInBounds_toArray, List.set_cons_zero, List.set_cons_succ, List.getElem_toArray, List.getElem_cons_zero, List.getElem_cons_succ]
  refine anyL_ready (rs := [28]) (by kernel_rfl) (by simp) ?_
  refine AllL.cons rfl (fun K hK => ?_) ?_
  rotate_left
  · exact AllL.nil
  go_simp
  refine (Sfalse _).mono ?_
  rintro e t6 ⟨rfl, k6⟩
  have HY := Lib.hid (HY.out.on k6)
  have KW := Lib.hid (KW.out.trans ((k6 : Bl _ _).mono KW.out.size))
  have hS9 := HY.out.c
  go_wp2_with fail
  refine hK.out _ _ hS9 (fun hHeld => ?_)
  clear hK K
  try simp only [Act.put, List.setIfInBounds_toArray, List.set_cons_zero, List.set_cons_succ, List.getElem_toArray, List.getElem_cons_zero, List.getElem_cons_succ]
  refine anyL_take (k := 60) (i := 29) (v := ?_) rfl (by kernel_rfl) (by kernel_rfl) (by kernel_rfl) (by kernel_rfl) (fun _ _ _ h => h) (Or.inl ⟨by rfl, ?_⟩) (by assumption) ?_
  rotate_left
  · intro w hSw; (try dsimp only at hSw); go_simp; try with_reducible rfl
  try simp only [Act.put, List.setIfInBounds_toArray, List.set_cons_zero, List.set_cons_succ, List.getElem_toArray, List.getElem_cons_zero, List.getElem_cons_succ]
  refine anyL_take (k := 60) (i := 30) (v := ?_) rfl (by kernel_rfl) (by kernel_rfl) (by kernel_rfl) (by kernel_rfl) (fun _ _ _ h => h) (Or.inl ⟨by rfl, ?_⟩) (by assumption) ?_
  rotate_left
  · intro w hSw; (try dsimp only at hSw); go_simp; try with_reducible rfl
  try simp only [Act.put, List.setIfInBounds_toArray, List.set_cons_zero, List.set_cons_succ, List.getElem_toArray, List.getElem_cons_zero, List.getElem_cons_succ]
  refine anyL_take (k := 60) (i := 31) (v := ?_) rfl (by kernel_rfl) (by kernel_rfl) (by kernel_rfl) (by kernel_rfl) (fun _ _ _ h => h) (Or.inl ⟨by rfl, ?_⟩) (by assumption) ?_
  rotate_left
  · intro w hSw; (try dsimp only at hSw); go_simp; try with_reducible rfl
  try simp only [Act.put, List.setIfInBounds_toArray, List.set_cons_zero, List.set_cons_succ, List.getElem_toArray, List.getElem_cons_zero, List.getElem_cons_succ]
  refine anyL_ready (rs := [32]) (by kernel_rfl) (by simp) ?_
  refine AllL.cons rfl (fun K hK => ?_) ?_
  rotate_left
  · exact AllL.nil
  go_simp
  refine (works_any _).mono ?_
  rintro e t7 ⟨rfl, k7⟩
  have HY := Lib.hid (HY.out.on k7)
  have KW := Lib.hid (KW.out.trans ((k7 : Bl _ _).mono KW.out.size))
  have hS9 := HY.out.c
  go_wp2_with fail
  refine hK.out _ _ hS9 (fun hHeld => ?_)
  clear hK K
  try simp only [Act.put, List.setIfInBounds_toArray, List.set_cons_zero, List.set_cons_succ, List.getElem_toArray, List.getElem_cons_zero, List.getElem_cons_succ]
  refine anyL_take (k := 60) (i := 33) (v := ?_) rfl (by kernel_rfl) (by kernel_rfl) (by kernel_rfl) (by kernel_rfl) (fun _ _ _ h => h) (Or.inl ⟨by rfl, ?_⟩) (by assumption) ?_
  rotate_left
  · intro w hSw; (try dsimp only at hSw); go_simp; try with_reducible rfl
  try simp only [Act.put, List.setIfInBounds_toArray, List.set_cons_zero, List.set_cons_succ, List.getElem_toArray, List.getElem_cons_zero, List.getElem_cons_succ]
  refine anyL_ready (rs := [34]) (by kernel_rfl) (by simp) ?_
  refine AllL.last rfl (by kernel_rfl) (fun K hK => ?_) ?_
  rotate_left
  · exact AllL.nil
  go_simp
  refine hK.out _ _ ?_
  clear hK K
  try simp only [Act.put, List.setIfInBounds_toArray, List.set_cons_zero, List.set_cons_succ, List.getElem_toArray, List.getElem_cons_zero, List.getElem_cons_succ]
  refine anyL_done (by kernel_rfl) ?_ _
  go_wp2_with fail
  go_ret
  exact ⟨rfl, KW.out⟩
end Go.Proofs.Ytpnohljhpoildaa
