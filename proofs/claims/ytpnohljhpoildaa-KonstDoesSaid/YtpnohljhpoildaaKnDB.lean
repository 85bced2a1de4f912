/- KonstDoes. -/
import Derived.Test.YtpnohljhpoildaaKnDA
import Derived.Test.YtpnohljhpoildaaHdL
import Derived.Deep.DeepCutAuto
import Derived.Deep.Cut
namespace Go.Proofs.Ytpnohljhpoildaa
open Go.RowKit
set_option maxHeartbeats 4000000
set_option maxRecDepth 100000
set_option linter.unusedVariables false
set_option linter.unusedSimpArgs false

theorem doesl_end (r s : RV) (hr : r.wf) (hs : s.wf) (hrx : r.x.size ≤ 9223372036854775807) (hsx : s.x.size ≤ 9223372036854775807) (hv : hvB r s = false) (op : Int) (p0 : 0 ≤ op) (p1 : op ≤ 255) (W : World) : Calls Try.prog 3 #[r.val, s.val, .int .u8 op] W fun e w' => e = .returned (.bool true) ∧ Below W.heap.size W w' := by
  obtain ⟨a, ea⟩ : ∃ a, anyP r = a := ⟨_, rfl⟩
  obtain ⟨b, eb⟩ : ∃ a, anyP s = a := ⟨_, rfl⟩
  have wa : a.wf := by rw [← ea]; exact anyP_wf r hr hrx
  have wb : b.wf := by rw [← eb]; exact anyP_wf s hs hsx
  have HV := heavy_any r s
  rw [hv] at HV
  have HA := any_any r hr
  have HB := any_any s hs
  rw [ea] at HA
  rw [eb] at HB
  have HLA := look_any a wa
  have HLB := look_any b wb
  obtain ⟨j, hj⟩ : ∃ j : Nat, op.tmod 18 = (j : Int) ∧ j < 18 := ⟨(op.tmod 18).toNat, by rw [Int.tmod_eq_emod_of_nonneg p0]; omega, by rw [Int.tmod_eq_emod_of_nonneg p0]; omega⟩
  obtain ⟨hj1, hj2⟩ := hj
  have hwop : wrap64 op = op := IntWalk.wrap64_in op (by omega)
  have HD := fun (o : List UInt8) (ho : o.length ≤ 4096) => Does_any o ho a b wa wb
  have HO := fun (o : List UInt8) (ho : o.length ≤ 4096) => One_any o ho a wa
  have HDD := fun (o : List UInt8) => docd_any o a b wa wb
  have HOD := fun (o : List UInt8) => oned_is o a wa
  have HS1 := fun (o : List UInt8) (w : World) => (same_any (doesP o a b).1 (does_wf o a b wa wb) (lookP (doesP o a b).1) w)
  have HS2 := fun (o : List UInt8) (w : World) => (same_any (oneP o a).1 (one_wf o a) (lookP (oneP o a).1) w)
  simp only [LV.eq_self] at HS1 HS2
  obtain ⟨av, hav⟩ : ∃ v, a.val = v := ⟨_, rfl⟩
  obtain ⟨bv, hbv⟩ : ∃ v, b.val = v := ⟨_, rfl⟩
  obtain ⟨la, hla⟩ : ∃ v, lookP a = v := ⟨_, rfl⟩
  obtain ⟨lb, hlb⟩ : ∃ v, lookP b = v := ⟨_, rfl⟩
  rw [hav] at HA HLA
  rw [hbv] at HB HLB
  rw [hla] at HLA
  rw [hlb] at HLB
  simp only [hav, hbv] at HD HO
  simp only [hla, hlb] at HDD HOD
  have HJ := fun w => opsA_cell w j hj2
  clear hav hbv hla hlb ea eb wa wb hr hs hrx hsx hv
  obtain ⟨rk, rn, rx, rt⟩ := r
  obtain ⟨sk, sn, sx, st⟩ := s
  obtain ⟨las, lan, lax, lat⟩ := la
  obtain ⟨lbs, lbn, lbx, lbt⟩ := lb
  unfold RV.val LV.val at *
  simp only at HDD HOD
  obtain ⟨W2, hW2⟩ : ∃ W2, (W.alloc (.cells #[.int .u8 rk, .int .i64 rn, .string rx, .int .i64 rt] 23)).alloc (.cells #[.int .u8 sk, .int .i64 sn, .string sx, .int .i64 st] 23) = W2 := ⟨_, rfl⟩
  have X := (Four.new W (.int .u8 rk) (.int .i64 rn) (.string rx) (.int .i64 rt) 23).on ((Below.refl _ _).alloc (Nat.le_refl _) (.cells #[.int .u8 sk, .int .i64 sn, .string sx, .int .i64 st] 23))
  have Y := Four.new (W.alloc (.cells #[.int .u8 rk, .int .i64 rn, .string rx, .int .i64 rt] 23)) (.int .u8 sk) (.int .i64 sn) (.string sx) (.int .i64 st) 23
  have kW : Below W.heap.size W W2 := by rw [← hW2]; exact ((Below.refl _ _).alloc (Nat.le_refl _) _).alloc (by simp) _
  simp only [World.size_alloc] at Y
  rw [hW2] at X Y
  obtain ⟨p, hp⟩ : ∃ p, W.heap.size = p := ⟨_, rfl⟩
  rw [hp] at X Y
  have HP := Lib.hid hp
  have KW := Lib.hid kW
  have HX := Lib.hid (And.intro X Y)
  have HW2 := Lib.hid hW2
  obtain ⟨x20, x21, x22, x23⟩ := X.c
  obtain ⟨y20, y21, y22, y23⟩ := Y.c
  clear X Y kW hp hW2
  go_enter Try.func3, Try.ntmps3
  go_wp2_with fail
  rw [HW2.out]
  try simp only [HP.out]
  refine (HV _).mono ?_
  rintro e w0 ⟨rfl, k0⟩
  have HX := Lib.hid (And.intro (HX.out.1.on k0) (HX.out.2.on k0))
  have KW := Lib.hid (KW.out.trans (k0.mono KW.out.size))
  clear k0 HV x20 x21 x22 x23 y20 y21 y22 y23 HW2
  go_wp2_with fail
  refine (ops_any _).mono ?_
  rintro e w1 ⟨rfl, hw1⟩
  obtain ⟨o, ho1, hcell, hol⟩ := HJ w0
  rw [hw1] at hcell
  have k1 : Bl w0 w1 := by rw [← hw1]; exact (Below.refl _ _).alloc (Nat.le_refl _) _
  have HX := Lib.hid (And.intro (HX.out.1.on k1) (HX.out.2.on k1))
  have KW := Lib.hid (KW.out.trans (k1.mono KW.out.size))
  have HD := HD o hol
  have HO := HO o hol
  have HDD := HDD o
  have HOD := HOD o
  have HS1 := HS1 o
  have HS2 := HS2 o
  clear k1 hw1 HJ ho1 hol
  generalize doesP o a b = P at *
  generalize oneP o a = Q at *
  obtain ⟨P1, P2⟩ := P
  obtain ⟨Q1, Q2⟩ := Q
  unfold Ans at HD HO
  unfold AnsD outP at HDD HOD
  simp only at HD HO HDD HOD HS1 HS2
  obtain ⟨lp, hlp⟩ : ∃ v, lookP P1 = v := ⟨_, rfl⟩
  obtain ⟨lq, hlq⟩ : ∃ v, lookP Q1 = v := ⟨_, rfl⟩
  simp only [hlp] at HDD HS1
  simp only [hlq] at HOD HS2
  clear hlp hlq
  obtain ⟨ps, pn, px, pt⟩ := lp
  obtain ⟨js, jn, jx, jt⟩ := lq
  simp only [LV.val] at HDD HOD HS1 HS2
  obtain ⟨pv, hpv⟩ : ∃ v, P1.val = v := ⟨_, rfl⟩
  obtain ⟨qv, hqv⟩ : ∃ v, Q1.val = v := ⟨_, rfl⟩
  simp only [hpv] at HD HS1
  simp only [hqv] at HO HS2
  clear hpv hqv
  go_upto_region 5 with fail
  have hfw : Try.prog.follows .mixedOrders = true := by kernel_rfl
  go_cut [9, 10] (fun x y wx => ∃ q q' : Nat, x = .pointer (some ⟨q, 0, none⟩) ∧ y = .pointer (some ⟨q', 0, none⟩) ∧ Four wx q (.int .i64 las) (.int .i64 lan) (.string lax) (.int .i64 lat) 29 ∧ Four wx q' (.int .i64 lbs) (.int .i64 lbn) (.string lbx) (.int .i64 lbt) 29 ∧ Four wx p (.int .u8 rk) (.int .i64 rn) (.string rx) (.int .i64 rt) 23 ∧ Four wx (p + 1) (.int .u8 sk) (.int .i64 sn) (.string sx) (.int .i64 st) 23 ∧ Below W.heap.size W wx)
  case first =>
    refine region_l 9 (S := fun w' => Four w' p (.int .u8 rk) (.int .i64 rn) (.string rx) (.int .i64 rt) 23 ∧ Four w' (p + 1) (.int .u8 sk) (.int .i64 sn) (.string sx) (.int .i64 st) 23) hfw ?_ (fun hHeld => ?_)
    · exact ⟨HX.out.1.on ((Below.refl _ _).drew), HX.out.2.on ((Below.refl _ _).drew)⟩
    have k9 : Bl w1 w1.drew := (Below.refl _ _).drew
    obtain ⟨w1d, hw1d⟩ : ∃ z, w1.drew = z := ⟨_, rfl⟩
    rw [hw1d] at k9
    try rw [hw1d]
    have HXn := Lib.hid (And.intro (HX.out.1.on k9) (HX.out.2.on k9))
    have KWn := Lib.hid (KW.out.trans ((k9 : Bl w1 w1d).mono KW.out.size))
    clear HX KW
    have HX := HXn
    have KW := KWn
    clear HXn KWn
    have hS1 := HX.out
    clear k9 hw1d hHeld
    refine anyL_take (k := 60) (i := 0) (v := ?_) rfl (by kernel_rfl) (by kernel_rfl) (by kernel_rfl) (by kernel_rfl) (fun _ _ _ h => h) (Or.inl ⟨by rfl, ?_⟩) (by assumption) ?_
    rotate_left
    · intro w hSw
      obtain ⟨z0, z1, z2, z3⟩ := Four.c hSw.1
      obtain ⟨z4, z5, z6, z7⟩ := Four.c hSw.2
      go_simp; try with_reducible rfl
    try simp only [Act.put, List.setIfInBounds_toArray, List.set_cons_zero, List.set_cons_succ, List.getElem_toArray, List.getElem_cons_zero, List.getElem_cons_succ]
    refine anyL_take (k := 60) (i := 3) (v := ?_) rfl (by kernel_rfl) (by kernel_rfl) (by kernel_rfl) (by kernel_rfl) (fun _ _ _ h => h) (Or.inl ⟨by rfl, ?_⟩) (by assumption) ?_
    rotate_left
    · intro w hSw
      obtain ⟨z0, z1, z2, z3⟩ := Four.c hSw.1
      obtain ⟨z4, z5, z6, z7⟩ := Four.c hSw.2
      go_simp; try with_reducible rfl
    try simp only [Act.put, List.setIfInBounds_toArray, List.set_cons_zero, List.set_cons_succ, List.getElem_toArray, List.getElem_cons_zero, List.getElem_cons_succ]
    refine anyL_ready (rs := [1, 6, 7]) (by kernel_rfl) (by simp) ?_
    refine (AllL.cons rfl (fun K hK => ?_) (AllL.cons rfl (fun K hK => ?_) (AllL.cons rfl (fun K hK => ?_) AllL.nil)))
    ·
     go_simp
     refine (HA _).mono ?_
     rintro e w_1_1 ⟨rfl, k9⟩
     have HXn := Lib.hid (And.intro (HX.out.1.on k9) (HX.out.2.on k9))
     have KWn := Lib.hid (KW.out.trans ((k9 : Bl w1d w_1_1).mono KW.out.size))
     clear HX KW
     have HX := HXn
     have KW := KWn
     clear HXn KWn
     go_wp2_with fail
     refine hK.out _ _ HX.out (fun hHeld => ?_)
     clear hK K k9
     try simp only [Act.put, List.setIfInBounds_toArray, List.set_cons_zero, List.set_cons_succ, List.getElem_toArray, List.getElem_cons_zero, List.getElem_cons_succ]
     refine anyL_ready (rs := [2, 6, 7]) (by kernel_rfl) (by simp) ?_
     refine (AllL.cons rfl (fun K hK => ?_) (AllL.cons rfl (fun K hK => ?_) (AllL.cons rfl (fun K hK => ?_) AllL.nil)))
     ·
      go_simp
      refine (HLA _).mono ?_
      rintro e w_2_2 ⟨rfl, k9⟩
      have HXn := Lib.hid (And.intro (HX.out.1.on k9) (HX.out.2.on k9))
      have KWn := Lib.hid (KW.out.trans ((k9 : Bl w_1_1 w_2_2).mono KW.out.size))
      clear HX KW
      have HX := HXn
      have KW := KWn
      clear HXn KWn
      go_wp2_with fail
      refine hK.out _ _ HX.out (fun hHeld => ?_)
      clear hK K k9
      try simp only [Act.put, List.setIfInBounds_toArray, List.set_cons_zero, List.set_cons_succ, List.getElem_toArray, List.getElem_cons_zero, List.getElem_cons_succ]
      refine anyL_ready (rs := [4, 6, 7]) (by kernel_rfl) (by simp) ?_
      refine (AllL.cons rfl (fun K hK => ?_) (AllL.cons rfl (fun K hK => ?_) (AllL.cons rfl (fun K hK => ?_) AllL.nil)))
      ·
       go_simp
       refine (HB _).mono ?_
       rintro e w_4_3 ⟨rfl, k9⟩
       have HXn := Lib.hid (And.intro (HX.out.1.on k9) (HX.out.2.on k9))
       have KWn := Lib.hid (KW.out.trans ((k9 : Bl w_2_2 w_4_3).mono KW.out.size))
       clear HX KW
       have HX := HXn
       have KW := KWn
       clear HXn KWn
       go_wp2_with fail
       refine hK.out _ _ HX.out (fun hHeld => ?_)
       clear hK K k9
       try simp only [Act.put, List.setIfInBounds_toArray, List.set_cons_zero, List.set_cons_succ, List.getElem_toArray, List.getElem_cons_zero, List.getElem_cons_succ]
       refine anyL_ready (rs := [5, 6, 7]) (by kernel_rfl) (by simp) ?_
       refine (AllL.cons rfl (fun K hK => ?_) (AllL.cons rfl (fun K hK => ?_) (AllL.cons rfl (fun K hK => ?_) AllL.nil)))
       ·
        go_simp
        refine (HLB _).mono ?_
        rintro e w_5_4 ⟨rfl, k9⟩
        have HXn := Lib.hid (And.intro (HX.out.1.on k9) (HX.out.2.on k9))
        have KWn := Lib.hid (KW.out.trans ((k9 : Bl w_4_3 w_5_4).mono KW.out.size))
        clear HX KW
        have HX := HXn
        have KW := KWn
        clear HXn KWn
        go_wp2_with fail
        refine hK.out _ _ HX.out (fun hHeld => ?_)
        clear hK K k9
        try simp only [Act.put, List.setIfInBounds_toArray, List.set_cons_zero, List.set_cons_succ, List.getElem_toArray, List.getElem_cons_zero, List.getElem_cons_succ]
        refine anyL_ready (rs := [6, 7]) (by kernel_rfl) (by simp) ?_
        refine (AllL.cons rfl (fun K hK => ?_) (AllL.cons rfl (fun K hK => ?_) AllL.nil))
        ·
         go_simp
         obtain ⟨w_6_5, hwn⟩ : ∃ z, w_5_4.alloc (.cells #[.int .i64 0, .int .i64 0, .string ⟨#[]⟩, .int .i64 0] 29) = z := ⟨_, rfl⟩
         have k9 : Bl w_5_4 w_6_5 := by rw [← hwn]; exact (Below.refl _ _).alloc (Nat.le_refl _) _
         have H9 := Lib.hid (show Four w_6_5 w_5_4.heap.size (.int .i64 0) (.int .i64 0) (.string ⟨#[]⟩) (.int .i64 0) 29 from by rw [← hwn]; exact Four.new w_5_4 _ _ _ _ _)
         have hl9 := Lib.hid (lt_at HX.out.2)
         
         have HXn := Lib.hid (And.intro (HX.out.1.on k9) (HX.out.2.on k9))
         have KWn := Lib.hid (KW.out.trans ((k9 : Bl w_5_4 w_6_5).mono KW.out.size))
         clear HX KW
         have HX := HXn
         have KW := KWn
         clear HXn KWn
         try rw [hwn]
         refine hK.out _ _ HX.out (fun hHeld => ?_)
         clear hK K k9 hwn
         try simp only [Act.put, List.setIfInBounds_toArray, List.set_cons_zero, List.set_cons_succ, List.getElem_toArray, List.getElem_cons_zero, List.getElem_cons_succ]
         refine anyL_ready (rs := [7]) (by kernel_rfl) (by simp) ?_
         refine (AllL.cons rfl (fun K hK => ?_) AllL.nil)
         ·
          go_simp
          obtain ⟨w_7_6, hwn⟩ : ∃ z, w_6_5.alloc (.cells #[.int .i64 0, .int .i64 0, .string ⟨#[]⟩, .int .i64 0] 29) = z := ⟨_, rfl⟩
          have k9 : Bl w_6_5 w_7_6 := by rw [← hwn]; exact (Below.refl _ _).alloc (Nat.le_refl _) _
          have H10 := Lib.hid (show Four w_7_6 w_6_5.heap.size (.int .i64 0) (.int .i64 0) (.string ⟨#[]⟩) (.int .i64 0) 29 from by rw [← hwn]; exact Four.new w_6_5 _ _ _ _ _)
          have hl10 := Lib.hid (lt_at HX.out.2)
          have hq := Lib.hid (lt_at H9.out)
          have HXn := Lib.hid (And.intro (HX.out.1.on k9) (HX.out.2.on k9))
          have KWn := Lib.hid (KW.out.trans ((k9 : Bl w_6_5 w_7_6).mono KW.out.size))
          clear HX KW
          have HX := HXn
          have KW := KWn
          clear HXn KWn
          have H9n := Lib.hid (H9.out.on k9)
          clear H9
          have H9 := H9n
          clear H9n
          try rw [hwn]
          refine hK.out _ _ HX.out (fun hHeld => ?_)
          clear hK K k9 hwn
          try simp only [Act.put, List.setIfInBounds_toArray, List.set_cons_zero, List.set_cons_succ, List.getElem_toArray, List.getElem_cons_zero, List.getElem_cons_succ]
          refine anyL_ready (rs := [8]) (by kernel_rfl) (by simp) ?_
          refine (AllL.cons rfl (fun K hK => ?_) AllL.nil)
          ·
           have f0 := H9.out.f 0
           have f1 := H9.out.f 1
           have f2 := H9.out.f 2
           have f3 := H9.out.f 3
           obtain ⟨c0, c1, c2, c3⟩ := H9.out.c
           go_simp
           obtain ⟨w_8_7, hwn⟩ : ∃ z, (((w_7_6.setCell ⟨w_5_4.heap.size, 0, none⟩ (.int .i64 las)).setCell ⟨w_5_4.heap.size, 1, none⟩ (.int .i64 lan)).setCell ⟨w_5_4.heap.size, 2, none⟩ (.string lax)).setCell ⟨w_5_4.heap.size, 3, none⟩ (.int .i64 lat) = z := ⟨_, rfl⟩
           have H9n := Lib.hid (show Four w_8_7 (w_5_4.heap.size) (.int .i64 las) (.int .i64 lan) (.string lax) (.int .i64 lat) 29 from by rw [← hwn]; exact four_set H9.out _ _ _ _)
           have H10n := Lib.hid (show Four w_8_7 (w_6_5.heap.size) (.int .i64 0) (.int .i64 0) (.string ⟨#[]⟩) (.int .i64 0) 29 from by rw [← hwn]; exact four_far H10.out (by have := hq.out; omega) _ _ _ _)
           have HXn := Lib.hid (And.intro (show Four w_8_7 p (.int .u8 rk) (.int .i64 rn) (.string rx) (.int .i64 rt) 23 from by rw [← hwn]; exact four_far HX.out.1 (by have := hl9.out; omega) _ _ _ _) (show Four w_8_7 (p + 1) (.int .u8 sk) (.int .i64 sn) (.string sx) (.int .i64 st) 23 from by rw [← hwn]; exact four_far HX.out.2 (by have := hl9.out; omega) _ _ _ _))
           have KWn := Lib.hid (show Below W.heap.size W w_8_7 from by rw [← hwn]; exact below_set KW.out (by have := HP.out; have := hl9.out; omega) _ _ _ _)
           clear H9 H10 HX KW
           have H9 := H9n
           have H10 := H10n
           have HX := HXn
           have KW := KWn
           clear H9n H10n HXn KWn
           try rw [hwn]
           refine hK.out _ _ HX.out (fun hHeld => ?_)
           clear hK K hwn f0 f1 f2 f3 c0 c1 c2 c3
           try simp only [Act.put, List.setIfInBounds_toArray, List.set_cons_zero, List.set_cons_succ, List.getElem_toArray, List.getElem_cons_zero, List.getElem_cons_succ]
           refine anyL_ready (rs := [9]) (by kernel_rfl) (by simp) ?_
           refine (AllL.last rfl (by kernel_rfl) (fun K hK => ?_) AllL.nil)
           ·
            have f0 := H10.out.f 0
            have f1 := H10.out.f 1
            have f2 := H10.out.f 2
            have f3 := H10.out.f 3
            obtain ⟨c0, c1, c2, c3⟩ := H10.out.c
            go_simp
            obtain ⟨w_9_8, hwn⟩ : ∃ z, (((w_8_7.setCell ⟨w_6_5.heap.size, 0, none⟩ (.int .i64 lbs)).setCell ⟨w_6_5.heap.size, 1, none⟩ (.int .i64 lbn)).setCell ⟨w_6_5.heap.size, 2, none⟩ (.string lbx)).setCell ⟨w_6_5.heap.size, 3, none⟩ (.int .i64 lbt) = z := ⟨_, rfl⟩
            have H10n := Lib.hid (show Four w_9_8 (w_6_5.heap.size) (.int .i64 lbs) (.int .i64 lbn) (.string lbx) (.int .i64 lbt) 29 from by rw [← hwn]; exact four_set H10.out _ _ _ _)
            have H9n := Lib.hid (show Four w_9_8 (w_5_4.heap.size) (.int .i64 las) (.int .i64 lan) (.string lax) (.int .i64 lat) 29 from by rw [← hwn]; exact four_far H9.out (by have := hq.out; omega) _ _ _ _)
            have HXn := Lib.hid (And.intro (show Four w_9_8 p (.int .u8 rk) (.int .i64 rn) (.string rx) (.int .i64 rt) 23 from by rw [← hwn]; exact four_far HX.out.1 (by have := hl10.out; omega) _ _ _ _) (show Four w_9_8 (p + 1) (.int .u8 sk) (.int .i64 sn) (.string sx) (.int .i64 st) 23 from by rw [← hwn]; exact four_far HX.out.2 (by have := hl10.out; omega) _ _ _ _))
            have KWn := Lib.hid (show Below W.heap.size W w_9_8 from by rw [← hwn]; exact below_set KW.out (by have := HP.out; have := hl10.out; omega) _ _ _ _)
            clear H9 H10 HX KW
            have H9 := H9n
            have H10 := H10n
            have HX := HXn
            have KW := KWn
            clear H9n H10n HXn KWn
            try rw [hwn]
            refine hK.out _ _ ?_
            clear hK K hwn f0 f1 f2 f3 c0 c1 c2 c3
            try simp only [Act.put, List.setIfInBounds_toArray, List.set_cons_zero, List.set_cons_succ, List.getElem_toArray, List.getElem_cons_zero, List.getElem_cons_succ]
            refine anyL_done (by kernel_rfl) ?_ _
            go_wp2_with fail
            go_meet
            exact ⟨_, _, rfl, rfl, H9.out, H10.out, HX.out.1, HX.out.2, KW.out⟩
        ·
         go_simp
         obtain ⟨w_7_9, hwn⟩ : ∃ z, w_5_4.alloc (.cells #[.int .i64 0, .int .i64 0, .string ⟨#[]⟩, .int .i64 0] 29) = z := ⟨_, rfl⟩
         have k9 : Bl w_5_4 w_7_9 := by rw [← hwn]; exact (Below.refl _ _).alloc (Nat.le_refl _) _
         have H10 := Lib.hid (show Four w_7_9 w_5_4.heap.size (.int .i64 0) (.int .i64 0) (.string ⟨#[]⟩) (.int .i64 0) 29 from by rw [← hwn]; exact Four.new w_5_4 _ _ _ _ _)
         have hl10 := Lib.hid (lt_at HX.out.2)
         
         have HXn := Lib.hid (And.intro (HX.out.1.on k9) (HX.out.2.on k9))
         have KWn := Lib.hid (KW.out.trans ((k9 : Bl w_5_4 w_7_9).mono KW.out.size))
         clear HX KW
         have HX := HXn
         have KW := KWn
         clear HXn KWn
         try rw [hwn]
         refine hK.out _ _ HX.out (fun hHeld => ?_)
         clear hK K k9 hwn
         try simp only [Act.put, List.setIfInBounds_toArray, List.set_cons_zero, List.set_cons_succ, List.getElem_toArray, List.getElem_cons_zero, List.getElem_cons_succ]
         refine anyL_ready (rs := [6]) (by kernel_rfl) (by simp) ?_
         refine (AllL.cons rfl (fun K hK => ?_) AllL.nil)
         ·
          go_simp
          obtain ⟨w_6_10, hwn⟩ : ∃ z, w_7_9.alloc (.cells #[.int .i64 0, .int .i64 0, .string ⟨#[]⟩, .int .i64 0] 29) = z := ⟨_, rfl⟩
          have k9 : Bl w_7_9 w_6_10 := by rw [← hwn]; exact (Below.refl _ _).alloc (Nat.le_refl _) _
          have H9 := Lib.hid (show Four w_6_10 w_7_9.heap.size (.int .i64 0) (.int .i64 0) (.string ⟨#[]⟩) (.int .i64 0) 29 from by rw [← hwn]; exact Four.new w_7_9 _ _ _ _ _)
          have hl9 := Lib.hid (lt_at HX.out.2)
          have hq := Lib.hid (lt_at H10.out)
          have HXn := Lib.hid (And.intro (HX.out.1.on k9) (HX.out.2.on k9))
          have KWn := Lib.hid (KW.out.trans ((k9 : Bl w_7_9 w_6_10).mono KW.out.size))
          clear HX KW
          have HX := HXn
          have KW := KWn
          clear HXn KWn
          have H10n := Lib.hid (H10.out.on k9)
          clear H10
          have H10 := H10n
          clear H10n
          try rw [hwn]
          refine hK.out _ _ HX.out (fun hHeld => ?_)
          clear hK K k9 hwn
          try simp only [Act.put, List.setIfInBounds_toArray, List.set_cons_zero, List.set_cons_succ, List.getElem_toArray, List.getElem_cons_zero, List.getElem_cons_succ]
          refine anyL_ready (rs := [8]) (by kernel_rfl) (by simp) ?_
          refine (AllL.cons rfl (fun K hK => ?_) AllL.nil)
          ·
           have f0 := H9.out.f 0
           have f1 := H9.out.f 1
           have f2 := H9.out.f 2
           have f3 := H9.out.f 3
           obtain ⟨c0, c1, c2, c3⟩ := H9.out.c
           go_simp
           obtain ⟨w_8_11, hwn⟩ : ∃ z, (((w_6_10.setCell ⟨w_7_9.heap.size, 0, none⟩ (.int .i64 las)).setCell ⟨w_7_9.heap.size, 1, none⟩ (.int .i64 lan)).setCell ⟨w_7_9.heap.size, 2, none⟩ (.string lax)).setCell ⟨w_7_9.heap.size, 3, none⟩ (.int .i64 lat) = z := ⟨_, rfl⟩
           have H9n := Lib.hid (show Four w_8_11 (w_7_9.heap.size) (.int .i64 las) (.int .i64 lan) (.string lax) (.int .i64 lat) 29 from by rw [← hwn]; exact four_set H9.out _ _ _ _)
           have H10n := Lib.hid (show Four w_8_11 (w_5_4.heap.size) (.int .i64 0) (.int .i64 0) (.string ⟨#[]⟩) (.int .i64 0) 29 from by rw [← hwn]; exact four_far H10.out (by have := hq.out; omega) _ _ _ _)
           have HXn := Lib.hid (And.intro (show Four w_8_11 p (.int .u8 rk) (.int .i64 rn) (.string rx) (.int .i64 rt) 23 from by rw [← hwn]; exact four_far HX.out.1 (by have := hl9.out; omega) _ _ _ _) (show Four w_8_11 (p + 1) (.int .u8 sk) (.int .i64 sn) (.string sx) (.int .i64 st) 23 from by rw [← hwn]; exact four_far HX.out.2 (by have := hl9.out; omega) _ _ _ _))
           have KWn := Lib.hid (show Below W.heap.size W w_8_11 from by rw [← hwn]; exact below_set KW.out (by have := HP.out; have := hl9.out; omega) _ _ _ _)
           clear H9 H10 HX KW
           have H9 := H9n
           have H10 := H10n
           have HX := HXn
           have KW := KWn
           clear H9n H10n HXn KWn
           try rw [hwn]
           refine hK.out _ _ HX.out (fun hHeld => ?_)
           clear hK K hwn f0 f1 f2 f3 c0 c1 c2 c3
           try simp only [Act.put, List.setIfInBounds_toArray, List.set_cons_zero, List.set_cons_succ, List.getElem_toArray, List.getElem_cons_zero, List.getElem_cons_succ]
           refine anyL_ready (rs := [9]) (by kernel_rfl) (by simp) ?_
           refine (AllL.last rfl (by kernel_rfl) (fun K hK => ?_) AllL.nil)
           ·
            have f0 := H10.out.f 0
            have f1 := H10.out.f 1
            have f2 := H10.out.f 2
            have f3 := H10.out.f 3
            obtain ⟨c0, c1, c2, c3⟩ := H10.out.c
            go_simp
            obtain ⟨w_9_12, hwn⟩ : ∃ z, (((w_8_11.setCell ⟨w_5_4.heap.size, 0, none⟩ (.int .i64 lbs)).setCell ⟨w_5_4.heap.size, 1, none⟩ (.int .i64 lbn)).setCell ⟨w_5_4.heap.size, 2, none⟩ (.string lbx)).setCell ⟨w_5_4.heap.size, 3, none⟩ (.int .i64 lbt) = z := ⟨_, rfl⟩
            have H10n := Lib.hid (show Four w_9_12 (w_5_4.heap.size) (.int .i64 lbs) (.int .i64 lbn) (.string lbx) (.int .i64 lbt) 29 from by rw [← hwn]; exact four_set H10.out _ _ _ _)
            have H9n := Lib.hid (show Four w_9_12 (w_7_9.heap.size) (.int .i64 las) (.int .i64 lan) (.string lax) (.int .i64 lat) 29 from by rw [← hwn]; exact four_far H9.out (by have := hq.out; omega) _ _ _ _)
            have HXn := Lib.hid (And.intro (show Four w_9_12 p (.int .u8 rk) (.int .i64 rn) (.string rx) (.int .i64 rt) 23 from by rw [← hwn]; exact four_far HX.out.1 (by have := hl10.out; omega) _ _ _ _) (show Four w_9_12 (p + 1) (.int .u8 sk) (.int .i64 sn) (.string sx) (.int .i64 st) 23 from by rw [← hwn]; exact four_far HX.out.2 (by have := hl10.out; omega) _ _ _ _))
            have KWn := Lib.hid (show Below W.heap.size W w_9_12 from by rw [← hwn]; exact below_set KW.out (by have := HP.out; have := hl10.out; omega) _ _ _ _)
            clear H9 H10 HX KW
            have H9 := H9n
            have H10 := H10n
            have HX := HXn
            have KW := KWn
            clear H9n H10n HXn KWn
            try rw [hwn]
            refine hK.out _ _ ?_
            clear hK K hwn f0 f1 f2 f3 c0 c1 c2 c3
            try simp only [Act.put, List.setIfInBounds_toArray, List.set_cons_zero, List.set_cons_succ, List.getElem_toArray, List.getElem_cons_zero, List.getElem_cons_succ]
            refine anyL_done (by kernel_rfl) ?_ _
            go_wp2_with fail
            go_meet
            exact ⟨_, _, rfl, rfl, H9.out, H10.out, HX.out.1, HX.out.2, KW.out⟩
       ·
        go_simp
        obtain ⟨w_6_13, hwn⟩ : ∃ z, w_4_3.alloc (.cells #[.int .i64 0, .int .i64 0, .string ⟨#[]⟩, .int .i64 0] 29) = z := ⟨_, rfl⟩
        have k9 : Bl w_4_3 w_6_13 := by rw [← hwn]; exact (Below.refl _ _).alloc (Nat.le_refl _) _
        have H9 := Lib.hid (show Four w_6_13 w_4_3.heap.size (.int .i64 0) (.int .i64 0) (.string ⟨#[]⟩) (.int .i64 0) 29 from by rw [← hwn]; exact Four.new w_4_3 _ _ _ _ _)
        have hl9 := Lib.hid (lt_at HX.out.2)
        
        have HXn := Lib.hid (And.intro (HX.out.1.on k9) (HX.out.2.on k9))
        have KWn := Lib.hid (KW.out.trans ((k9 : Bl w_4_3 w_6_13).mono KW.out.size))
        clear HX KW
        have HX := HXn
        have KW := KWn
        clear HXn KWn
        try rw [hwn]
        refine hK.out _ _ HX.out (fun hHeld => ?_)
        clear hK K k9 hwn
        try simp only [Act.put, List.setIfInBounds_toArray, List.set_cons_zero, List.set_cons_succ, List.getElem_toArray, List.getElem_cons_zero, List.getElem_cons_succ]
        refine anyL_ready (rs := [5, 7]) (by kernel_rfl) (by simp) ?_
        refine (AllL.cons rfl (fun K hK => ?_) (AllL.cons rfl (fun K hK => ?_) AllL.nil))
        ·
         go_simp
         refine (HLB _).mono ?_
         rintro e w_5_14 ⟨rfl, k9⟩
         have HXn := Lib.hid (And.intro (HX.out.1.on k9) (HX.out.2.on k9))
         have KWn := Lib.hid (KW.out.trans ((k9 : Bl w_6_13 w_5_14).mono KW.out.size))
         clear HX KW
         have HX := HXn
         have KW := KWn
         clear HXn KWn
         have H9n := Lib.hid (H9.out.on k9)
         clear H9
         have H9 := H9n
         clear H9n
         go_wp2_with fail
         refine hK.out _ _ HX.out (fun hHeld => ?_)
         clear hK K k9
         try simp only [Act.put, List.setIfInBounds_toArray, List.set_cons_zero, List.set_cons_succ, List.getElem_toArray, List.getElem_cons_zero, List.getElem_cons_succ]
         refine anyL_ready (rs := [7]) (by kernel_rfl) (by simp) ?_
         refine (AllL.cons rfl (fun K hK => ?_) AllL.nil)
         ·
          go_simp
          obtain ⟨w_7_15, hwn⟩ : ∃ z, w_5_14.alloc (.cells #[.int .i64 0, .int .i64 0, .string ⟨#[]⟩, .int .i64 0] 29) = z := ⟨_, rfl⟩
          have k9 : Bl w_5_14 w_7_15 := by rw [← hwn]; exact (Below.refl _ _).alloc (Nat.le_refl _) _
          have H10 := Lib.hid (show Four w_7_15 w_5_14.heap.size (.int .i64 0) (.int .i64 0) (.string ⟨#[]⟩) (.int .i64 0) 29 from by rw [← hwn]; exact Four.new w_5_14 _ _ _ _ _)
          have hl10 := Lib.hid (lt_at HX.out.2)
          have hq := Lib.hid (lt_at H9.out)
          have HXn := Lib.hid (And.intro (HX.out.1.on k9) (HX.out.2.on k9))
          have KWn := Lib.hid (KW.out.trans ((k9 : Bl w_5_14 w_7_15).mono KW.out.size))
          clear HX KW
          have HX := HXn
          have KW := KWn
          clear HXn KWn
          have H9n := Lib.hid (H9.out.on k9)
          clear H9
          have H9 := H9n
          clear H9n
          try rw [hwn]
          refine hK.out _ _ HX.out (fun hHeld => ?_)
          clear hK K k9 hwn
          try simp only [Act.put, List.setIfInBounds_toArray, List.set_cons_zero, List.set_cons_succ, List.getElem_toArray, List.getElem_cons_zero, List.getElem_cons_succ]
          refine anyL_ready (rs := [8]) (by kernel_rfl) (by simp) ?_
          refine (AllL.cons rfl (fun K hK => ?_) AllL.nil)
          ·
           have f0 := H9.out.f 0
           have f1 := H9.out.f 1
           have f2 := H9.out.f 2
           have f3 := H9.out.f 3
           obtain ⟨c0, c1, c2, c3⟩ := H9.out.c
           go_simp
           obtain ⟨w_8_16, hwn⟩ : ∃ z, (((w_7_15.setCell ⟨w_4_3.heap.size, 0, none⟩ (.int .i64 las)).setCell ⟨w_4_3.heap.size, 1, none⟩ (.int .i64 lan)).setCell ⟨w_4_3.heap.size, 2, none⟩ (.string lax)).setCell ⟨w_4_3.heap.size, 3, none⟩ (.int .i64 lat) = z := ⟨_, rfl⟩
           have H9n := Lib.hid (show Four w_8_16 (w_4_3.heap.size) (.int .i64 las) (.int .i64 lan) (.string lax) (.int .i64 lat) 29 from by rw [← hwn]; exact four_set H9.out _ _ _ _)
           have H10n := Lib.hid (show Four w_8_16 (w_5_14.heap.size) (.int .i64 0) (.int .i64 0) (.string ⟨#[]⟩) (.int .i64 0) 29 from by rw [← hwn]; exact four_far H10.out (by have := hq.out; omega) _ _ _ _)
           have HXn := Lib.hid (And.intro (show Four w_8_16 p (.int .u8 rk) (.int .i64 rn) (.string rx) (.int .i64 rt) 23 from by rw [← hwn]; exact four_far HX.out.1 (by have := hl9.out; omega) _ _ _ _) (show Four w_8_16 (p + 1) (.int .u8 sk) (.int .i64 sn) (.string sx) (.int .i64 st) 23 from by rw [← hwn]; exact four_far HX.out.2 (by have := hl9.out; omega) _ _ _ _))
           have KWn := Lib.hid (show Below W.heap.size W w_8_16 from by rw [← hwn]; exact below_set KW.out (by have := HP.out; have := hl9.out; omega) _ _ _ _)
           clear H9 H10 HX KW
           have H9 := H9n
           have H10 := H10n
           have HX := HXn
           have KW := KWn
           clear H9n H10n HXn KWn
           try rw [hwn]
           refine hK.out _ _ HX.out (fun hHeld => ?_)
           clear hK K hwn f0 f1 f2 f3 c0 c1 c2 c3
           try simp only [Act.put, List.setIfInBounds_toArray, List.set_cons_zero, List.set_cons_succ, List.getElem_toArray, List.getElem_cons_zero, List.getElem_cons_succ]
           refine anyL_ready (rs := [9]) (by kernel_rfl) (by simp) ?_
           refine (AllL.last rfl (by kernel_rfl) (fun K hK => ?_) AllL.nil)
           ·
            have f0 := H10.out.f 0
            have f1 := H10.out.f 1
            have f2 := H10.out.f 2
            have f3 := H10.out.f 3
            obtain ⟨c0, c1, c2, c3⟩ := H10.out.c
            go_simp
            obtain ⟨w_9_17, hwn⟩ : ∃ z, (((w_8_16.setCell ⟨w_5_14.heap.size, 0, none⟩ (.int .i64 lbs)).setCell ⟨w_5_14.heap.size, 1, none⟩ (.int .i64 lbn)).setCell ⟨w_5_14.heap.size, 2, none⟩ (.string lbx)).setCell ⟨w_5_14.heap.size, 3, none⟩ (.int .i64 lbt) = z := ⟨_, rfl⟩
            have H10n := Lib.hid (show Four w_9_17 (w_5_14.heap.size) (.int .i64 lbs) (.int .i64 lbn) (.string lbx) (.int .i64 lbt) 29 from by rw [← hwn]; exact four_set H10.out _ _ _ _)
            have H9n := Lib.hid (show Four w_9_17 (w_4_3.heap.size) (.int .i64 las) (.int .i64 lan) (.string lax) (.int .i64 lat) 29 from by rw [← hwn]; exact four_far H9.out (by have := hq.out; omega) _ _ _ _)
            have HXn := Lib.hid (And.intro (show Four w_9_17 p (.int .u8 rk) (.int .i64 rn) (.string rx) (.int .i64 rt) 23 from by rw [← hwn]; exact four_far HX.out.1 (by have := hl10.out; omega) _ _ _ _) (show Four w_9_17 (p + 1) (.int .u8 sk) (.int .i64 sn) (.string sx) (.int .i64 st) 23 from by rw [← hwn]; exact four_far HX.out.2 (by have := hl10.out; omega) _ _ _ _))
            have KWn := Lib.hid (show Below W.heap.size W w_9_17 from by rw [← hwn]; exact below_set KW.out (by have := HP.out; have := hl10.out; omega) _ _ _ _)
            clear H9 H10 HX KW
            have H9 := H9n
            have H10 := H10n
            have HX := HXn
            have KW := KWn
            clear H9n H10n HXn KWn
            try rw [hwn]
            refine hK.out _ _ ?_
            clear hK K hwn f0 f1 f2 f3 c0 c1 c2 c3
            try simp only [Act.put, List.setIfInBounds_toArray, List.set_cons_zero, List.set_cons_succ, List.getElem_toArray, List.getElem_cons_zero, List.getElem_cons_succ]
            refine anyL_done (by kernel_rfl) ?_ _
            go_wp2_with fail
            go_meet
            exact ⟨_, _, rfl, rfl, H9.out, H10.out, HX.out.1, HX.out.2, KW.out⟩
        ·
         go_simp
         obtain ⟨w_7_18, hwn⟩ : ∃ z, w_6_13.alloc (.cells #[.int .i64 0, .int .i64 0, .string ⟨#[]⟩, .int .i64 0] 29) = z := ⟨_, rfl⟩
         have k9 : Bl w_6_13 w_7_18 := by rw [← hwn]; exact (Below.refl _ _).alloc (Nat.le_refl _) _
         have H10 := Lib.hid (show Four w_7_18 w_6_13.heap.size (.int .i64 0) (.int .i64 0) (.string ⟨#[]⟩) (.int .i64 0) 29 from by rw [← hwn]; exact Four.new w_6_13 _ _ _ _ _)
         have hl10 := Lib.hid (lt_at HX.out.2)
         have hq := Lib.hid (lt_at H9.out)
         have HXn := Lib.hid (And.intro (HX.out.1.on k9) (HX.out.2.on k9))
         have KWn := Lib.hid (KW.out.trans ((k9 : Bl w_6_13 w_7_18).mono KW.out.size))
         clear HX KW
         have HX := HXn
         have KW := KWn
         clear HXn KWn
         have H9n := Lib.hid (H9.out.on k9)
         clear H9
         have H9 := H9n
         clear H9n
         try rw [hwn]
         refine hK.out _ _ HX.out (fun hHeld => ?_)
         clear hK K k9 hwn
         try simp only [Act.put, List.setIfInBounds_toArray, List.set_cons_zero, List.set_cons_succ, List.getElem_toArray, List.getElem_cons_zero, List.getElem_cons_succ]
         refine anyL_ready (rs := [5]) (by kernel_rfl) (by simp) ?_
         refine (AllL.cons rfl (fun K hK => ?_) AllL.nil)
         ·
          go_simp
          refine (HLB _).mono ?_
          rintro e w_5_19 ⟨rfl, k9⟩
          have HXn := Lib.hid (And.intro (HX.out.1.on k9) (HX.out.2.on k9))
          have KWn := Lib.hid (KW.out.trans ((k9 : Bl w_7_18 w_5_19).mono KW.out.size))
          clear HX KW
          have HX := HXn
          have KW := KWn
          clear HXn KWn
          have H9n := Lib.hid (H9.out.on k9)
          clear H9
          have H9 := H9n
          clear H9n
          have H10n := Lib.hid (H10.out.on k9)
          clear H10
          have H10 := H10n
          clear H10n
          go_wp2_with fail
          refine hK.out _ _ HX.out (fun hHeld => ?_)
          clear hK K k9
          try simp only [Act.put, List.setIfInBounds_toArray, List.set_cons_zero, List.set_cons_succ, List.getElem_toArray, List.getElem_cons_zero, List.getElem_cons_succ]
          refine anyL_ready (rs := [8]) (by kernel_rfl) (by simp) ?_
          refine (AllL.cons rfl (fun K hK => ?_) AllL.nil)
          ·
           have f0 := H9.out.f 0
           have f1 := H9.out.f 1
           have f2 := H9.out.f 2
           have f3 := H9.out.f 3
           obtain ⟨c0, c1, c2, c3⟩ := H9.out.c
           go_simp
           obtain ⟨w_8_20, hwn⟩ : ∃ z, (((w_5_19.setCell ⟨w_4_3.heap.size, 0, none⟩ (.int .i64 las)).setCell ⟨w_4_3.heap.size, 1, none⟩ (.int .i64 lan)).setCell ⟨w_4_3.heap.size, 2, none⟩ (.string lax)).setCell ⟨w_4_3.heap.size, 3, none⟩ (.int .i64 lat) = z := ⟨_, rfl⟩
           have H9n := Lib.hid (show Four w_8_20 (w_4_3.heap.size) (.int .i64 las) (.int .i64 lan) (.string lax) (.int .i64 lat) 29 from by rw [← hwn]; exact four_set H9.out _ _ _ _)
           have H10n := Lib.hid (show Four w_8_20 (w_6_13.heap.size) (.int .i64 0) (.int .i64 0) (.string ⟨#[]⟩) (.int .i64 0) 29 from by rw [← hwn]; exact four_far H10.out (by have := hq.out; omega) _ _ _ _)
           have HXn := Lib.hid (And.intro (show Four w_8_20 p (.int .u8 rk) (.int .i64 rn) (.string rx) (.int .i64 rt) 23 from by rw [← hwn]; exact four_far HX.out.1 (by have := hl9.out; omega) _ _ _ _) (show Four w_8_20 (p + 1) (.int .u8 sk) (.int .i64 sn) (.string sx) (.int .i64 st) 23 from by rw [← hwn]; exact four_far HX.out.2 (by have := hl9.out; omega) _ _ _ _))
           have KWn := Lib.hid (show Below W.heap.size W w_8_20 from by rw [← hwn]; exact below_set KW.out (by have := HP.out; have := hl9.out; omega) _ _ _ _)
           clear H9 H10 HX KW
           have H9 := H9n
           have H10 := H10n
           have HX := HXn
           have KW := KWn
           clear H9n H10n HXn KWn
           try rw [hwn]
           refine hK.out _ _ HX.out (fun hHeld => ?_)
           clear hK K hwn f0 f1 f2 f3 c0 c1 c2 c3
           try simp only [Act.put, List.setIfInBounds_toArray, List.set_cons_zero, List.set_cons_succ, List.getElem_toArray, List.getElem_cons_zero, List.getElem_cons_succ]
           refine anyL_ready (rs := [9]) (by kernel_rfl) (by simp) ?_
           refine (AllL.last rfl (by kernel_rfl) (fun K hK => ?_) AllL.nil)
           ·
            have f0 := H10.out.f 0
            have f1 := H10.out.f 1
            have f2 := H10.out.f 2
            have f3 := H10.out.f 3
            obtain ⟨c0, c1, c2, c3⟩ := H10.out.c
            go_simp
            obtain ⟨w_9_21, hwn⟩ : ∃ z, (((w_8_20.setCell ⟨w_6_13.heap.size, 0, none⟩ (.int .i64 lbs)).setCell ⟨w_6_13.heap.size, 1, none⟩ (.int .i64 lbn)).setCell ⟨w_6_13.heap.size, 2, none⟩ (.string lbx)).setCell ⟨w_6_13.heap.size, 3, none⟩ (.int .i64 lbt) = z := ⟨_, rfl⟩
            have H10n := Lib.hid (show Four w_9_21 (w_6_13.heap.size) (.int .i64 lbs) (.int .i64 lbn) (.string lbx) (.int .i64 lbt) 29 from by rw [← hwn]; exact four_set H10.out _ _ _ _)
            have H9n := Lib.hid (show Four w_9_21 (w_4_3.heap.size) (.int .i64 las) (.int .i64 lan) (.string lax) (.int .i64 lat) 29 from by rw [← hwn]; exact four_far H9.out (by have := hq.out; omega) _ _ _ _)
            have HXn := Lib.hid (And.intro (show Four w_9_21 p (.int .u8 rk) (.int .i64 rn) (.string rx) (.int .i64 rt) 23 from by rw [← hwn]; exact four_far HX.out.1 (by have := hl10.out; omega) _ _ _ _) (show Four w_9_21 (p + 1) (.int .u8 sk) (.int .i64 sn) (.string sx) (.int .i64 st) 23 from by rw [← hwn]; exact four_far HX.out.2 (by have := hl10.out; omega) _ _ _ _))
            have KWn := Lib.hid (show Below W.heap.size W w_9_21 from by rw [← hwn]; exact below_set KW.out (by have := HP.out; have := hl10.out; omega) _ _ _ _)
            clear H9 H10 HX KW
            have H9 := H9n
            have H10 := H10n
            have HX := HXn
            have KW := KWn
            clear H9n H10n HXn KWn
            try rw [hwn]
            refine hK.out _ _ ?_
            clear hK K hwn f0 f1 f2 f3 c0 c1 c2 c3
            try simp only [Act.put, List.setIfInBounds_toArray, List.set_cons_zero, List.set_cons_succ, List.getElem_toArray, List.getElem_cons_zero, List.getElem_cons_succ]
            refine anyL_done (by kernel_rfl) ?_ _
            go_wp2_with fail
            go_meet
            exact ⟨_, _, rfl, rfl, H9.out, H10.out, HX.out.1, HX.out.2, KW.out⟩
       ·
        go_simp
        obtain ⟨w_7_22, hwn⟩ : ∃ z, w_4_3.alloc (.cells #[.int .i64 0, .int .i64 0, .string ⟨#[]⟩, .int .i64 0] 29) = z := ⟨_, rfl⟩
        have k9 : Bl w_4_3 w_7_22 := by rw [← hwn]; exact (Below.refl _ _).alloc (Nat.le_refl _) _
        have H10 := Lib.hid (show Four w_7_22 w_4_3.heap.size (.int .i64 0) (.int .i64 0) (.string ⟨#[]⟩) (.int .i64 0) 29 from by rw [← hwn]; exact Four.new w_4_3 _ _ _ _ _)
        have hl10 := Lib.hid (lt_at HX.out.2)
        
        have HXn := Lib.hid (And.intro (HX.out.1.on k9) (HX.out.2.on k9))
        have KWn := Lib.hid (KW.out.trans ((k9 : Bl w_4_3 w_7_22).mono KW.out.size))
        clear HX KW
        have HX := HXn
        have KW := KWn
        clear HXn KWn
        try rw [hwn]
        refine hK.out _ _ HX.out (fun hHeld => ?_)
        clear hK K k9 hwn
        try simp only [Act.put, List.setIfInBounds_toArray, List.set_cons_zero, List.set_cons_succ, List.getElem_toArray, List.getElem_cons_zero, List.getElem_cons_succ]
        refine anyL_ready (rs := [5, 6]) (by kernel_rfl) (by simp) ?_
        refine (AllL.cons rfl (fun K hK => ?_) (AllL.cons rfl (fun K hK => ?_) AllL.nil))
        ·
         go_simp
         refine (HLB _).mono ?_
         rintro e w_5_23 ⟨rfl, k9⟩
         have HXn := Lib.hid (And.intro (HX.out.1.on k9) (HX.out.2.on k9))
         have KWn := Lib.hid (KW.out.trans ((k9 : Bl w_7_22 w_5_23).mono KW.out.size))
         clear HX KW
         have HX := HXn
         have KW := KWn
         clear HXn KWn
         have H10n := Lib.hid (H10.out.on k9)
         clear H10
         have H10 := H10n
         clear H10n
         go_wp2_with fail
         refine hK.out _ _ HX.out (fun hHeld => ?_)
         clear hK K k9
         try simp only [Act.put, List.setIfInBounds_toArray, List.set_cons_zero, List.set_cons_succ, List.getElem_toArray, List.getElem_cons_zero, List.getElem_cons_succ]
         refine anyL_ready (rs := [6]) (by kernel_rfl) (by simp) ?_
         refine (AllL.cons rfl (fun K hK => ?_) AllL.nil)
         ·
          go_simp
          obtain ⟨w_6_24, hwn⟩ : ∃ z, w_5_23.alloc (.cells #[.int .i64 0, .int .i64 0, .string ⟨#[]⟩, .int .i64 0] 29) = z := ⟨_, rfl⟩
          have k9 : Bl w_5_23 w_6_24 := by rw [← hwn]; exact (Below.refl _ _).alloc (Nat.le_refl _) _
          have H9 := Lib.hid (show Four w_6_24 w_5_23.heap.size (.int .i64 0) (.int .i64 0) (.string ⟨#[]⟩) (.int .i64 0) 29 from by rw [← hwn]; exact Four.new w_5_23 _ _ _ _ _)
          have hl9 := Lib.hid (lt_at HX.out.2)
          have hq := Lib.hid (lt_at H10.out)
          have HXn := Lib.hid (And.intro (HX.out.1.on k9) (HX.out.2.on k9))
          have KWn := Lib.hid (KW.out.trans ((k9 : Bl w_5_23 w_6_24).mono KW.out.size))
          clear HX KW
          have HX := HXn
          have KW := KWn
          clear HXn KWn
          have H10n := Lib.hid (H10.out.on k9)
          clear H10
          have H10 := H10n
          clear H10n
          try rw [hwn]
          refine hK.out _ _ HX.out (fun hHeld => ?_)
          clear hK K k9 hwn
          try simp only [Act.put, List.setIfInBounds_toArray, List.set_cons_zero, List.set_cons_succ, List.getElem_toArray, List.getElem_cons_zero, List.getElem_cons_succ]
          refine anyL_ready (rs := [8]) (by kernel_rfl) (by simp) ?_
          refine (AllL.cons rfl (fun K hK => ?_) AllL.nil)
          ·
           have f0 := H9.out.f 0
           have f1 := H9.out.f 1
           have f2 := H9.out.f 2
           have f3 := H9.out.f 3
           obtain ⟨c0, c1, c2, c3⟩ := H9.out.c
           go_simp
           obtain ⟨w_8_25, hwn⟩ : ∃ z, (((w_6_24.setCell ⟨w_5_23.heap.size, 0, none⟩ (.int .i64 las)).setCell ⟨w_5_23.heap.size, 1, none⟩ (.int .i64 lan)).setCell ⟨w_5_23.heap.size, 2, none⟩ (.string lax)).setCell ⟨w_5_23.heap.size, 3, none⟩ (.int .i64 lat) = z := ⟨_, rfl⟩
           have H9n := Lib.hid (show Four w_8_25 (w_5_23.heap.size) (.int .i64 las) (.int .i64 lan) (.string lax) (.int .i64 lat) 29 from by rw [← hwn]; exact four_set H9.out _ _ _ _)
           have H10n := Lib.hid (show Four w_8_25 (w_4_3.heap.size) (.int .i64 0) (.int .i64 0) (.string ⟨#[]⟩) (.int .i64 0) 29 from by rw [← hwn]; exact four_far H10.out (by have := hq.out; omega) _ _ _ _)
           have HXn := Lib.hid (And.intro (show Four w_8_25 p (.int .u8 rk) (.int .i64 rn) (.string rx) (.int .i64 rt) 23 from by rw [← hwn]; exact four_far HX.out.1 (by have := hl9.out; omega) _ _ _ _) (show Four w_8_25 (p + 1) (.int .u8 sk) (.int .i64 sn) (.string sx) (.int .i64 st) 23 from by rw [← hwn]; exact four_far HX.out.2 (by have := hl9.out; omega) _ _ _ _))
           have KWn := Lib.hid (show Below W.heap.size W w_8_25 from by rw [← hwn]; exact below_set KW.out (by have := HP.out; have := hl9.out; omega) _ _ _ _)
           clear H9 H10 HX KW
           have H9 := H9n
           have H10 := H10n
           have HX := HXn
           have KW := KWn
           clear H9n H10n HXn KWn
           try rw [hwn]
           refine hK.out _ _ HX.out (fun hHeld => ?_)
           clear hK K hwn f0 f1 f2 f3 c0 c1 c2 c3
           try simp only [Act.put, List.setIfInBounds_toArray, List.set_cons_zero, List.set_cons_succ, List.getElem_toArray, List.getElem_cons_zero, List.getElem_cons_succ]
           refine anyL_ready (rs := [9]) (by kernel_rfl) (by simp) ?_
           refine (AllL.last rfl (by kernel_rfl) (fun K hK => ?_) AllL.nil)
           ·
            have f0 := H10.out.f 0
            have f1 := H10.out.f 1
            have f2 := H10.out.f 2
            have f3 := H10.out.f 3
            obtain ⟨c0, c1, c2, c3⟩ := H10.out.c
            go_simp
            obtain ⟨w_9_26, hwn⟩ : ∃ z, (((w_8_25.setCell ⟨w_4_3.heap.size, 0, none⟩ (.int .i64 lbs)).setCell ⟨w_4_3.heap.size, 1, none⟩ (.int .i64 lbn)).setCell ⟨w_4_3.heap.size, 2, none⟩ (.string lbx)).setCell ⟨w_4_3.heap.size, 3, none⟩ (.int .i64 lbt) = z := ⟨_, rfl⟩
            have H10n := Lib.hid (show Four w_9_26 (w_4_3.heap.size) (.int .i64 lbs) (.int .i64 lbn) (.string lbx) (.int .i64 lbt) 29 from by rw [← hwn]; exact four_set H10.out _ _ _ _)
            have H9n := Lib.hid (show Four w_9_26 (w_5_23.heap.size) (.int .i64 las) (.int .i64 lan) (.string lax) (.int .i64 lat) 29 from by rw [← hwn]; exact four_far H9.out (by have := hq.out; omega) _ _ _ _)
            have HXn := Lib.hid (And.intro (show Four w_9_26 p (.int .u8 rk) (.int .i64 rn) (.string rx) (.int .i64 rt) 23 from by rw [← hwn]; exact four_far HX.out.1 (by have := hl10.out; omega) _ _ _ _) (show Four w_9_26 (p + 1) (.int .u8 sk) (.int .i64 sn) (.string sx) (.int .i64 st) 23 from by rw [← hwn]; exact four_far HX.out.2 (by have := hl10.out; omega) _ _ _ _))
            have KWn := Lib.hid (show Below W.heap.size W w_9_26 from by rw [← hwn]; exact below_set KW.out (by have := HP.out; have := hl10.out; omega) _ _ _ _)
            clear H9 H10 HX KW
            have H9 := H9n
            have H10 := H10n
            have HX := HXn
            have KW := KWn
            clear H9n H10n HXn KWn
            try rw [hwn]
            refine hK.out _ _ ?_
            clear hK K hwn f0 f1 f2 f3 c0 c1 c2 c3
            try simp only [Act.put, List.setIfInBounds_toArray, List.set_cons_zero, List.set_cons_succ, List.getElem_toArray, List.getElem_cons_zero, List.getElem_cons_succ]
            refine anyL_done (by kernel_rfl) ?_ _
            go_wp2_with fail
            go_meet
            exact ⟨_, _, rfl, rfl, H9.out, H10.out, HX.out.1, HX.out.2, KW.out⟩
        ·
         go_simp
         obtain ⟨w_6_27, hwn⟩ : ∃ z, w_7_22.alloc (.cells #[.int .i64 0, .int .i64 0, .string ⟨#[]⟩, .int .i64 0] 29) = z := ⟨_, rfl⟩
         have k9 : Bl w_7_22 w_6_27 := by rw [← hwn]; exact (Below.refl _ _).alloc (Nat.le_refl _) _
         have H9 := Lib.hid (show Four w_6_27 w_7_22.heap.size (.int .i64 0) (.int .i64 0) (.string ⟨#[]⟩) (.int .i64 0) 29 from by rw [← hwn]; exact Four.new w_7_22 _ _ _ _ _)
         have hl9 := Lib.hid (lt_at HX.out.2)
         have hq := Lib.hid (lt_at H10.out)
         have HXn := Lib.hid (And.intro (HX.out.1.on k9) (HX.out.2.on k9))
         have KWn := Lib.hid (KW.out.trans ((k9 : Bl w_7_22 w_6_27).mono KW.out.size))
         clear HX KW
         have HX := HXn
         have KW := KWn
         clear HXn KWn
         have H10n := Lib.hid (H10.out.on k9)
         clear H10
         have H10 := H10n
         clear H10n
         try rw [hwn]
         refine hK.out _ _ HX.out (fun hHeld => ?_)
         clear hK K k9 hwn
         try simp only [Act.put, List.setIfInBounds_toArray, List.set_cons_zero, List.set_cons_succ, List.getElem_toArray, List.getElem_cons_zero, List.getElem_cons_succ]
         refine anyL_ready (rs := [5]) (by kernel_rfl) (by simp) ?_
         refine (AllL.cons rfl (fun K hK => ?_) AllL.nil)
         ·
          go_simp
          refine (HLB _).mono ?_
          rintro e w_5_28 ⟨rfl, k9⟩
          have HXn := Lib.hid (And.intro (HX.out.1.on k9) (HX.out.2.on k9))
          have KWn := Lib.hid (KW.out.trans ((k9 : Bl w_6_27 w_5_28).mono KW.out.size))
          clear HX KW
          have HX := HXn
          have KW := KWn
          clear HXn KWn
          have H10n := Lib.hid (H10.out.on k9)
          clear H10
          have H10 := H10n
          clear H10n
          have H9n := Lib.hid (H9.out.on k9)
          clear H9
          have H9 := H9n
          clear H9n
          go_wp2_with fail
          refine hK.out _ _ HX.out (fun hHeld => ?_)
          clear hK K k9
          try simp only [Act.put, List.setIfInBounds_toArray, List.set_cons_zero, List.set_cons_succ, List.getElem_toArray, List.getElem_cons_zero, List.getElem_cons_succ]
          refine anyL_ready (rs := [8]) (by kernel_rfl) (by simp) ?_
          refine (AllL.cons rfl (fun K hK => ?_) AllL.nil)
          ·
           have f0 := H9.out.f 0
           have f1 := H9.out.f 1
           have f2 := H9.out.f 2
           have f3 := H9.out.f 3
           obtain ⟨c0, c1, c2, c3⟩ := H9.out.c
           go_simp
           obtain ⟨w_8_29, hwn⟩ : ∃ z, (((w_5_28.setCell ⟨w_7_22.heap.size, 0, none⟩ (.int .i64 las)).setCell ⟨w_7_22.heap.size, 1, none⟩ (.int .i64 lan)).setCell ⟨w_7_22.heap.size, 2, none⟩ (.string lax)).setCell ⟨w_7_22.heap.size, 3, none⟩ (.int .i64 lat) = z := ⟨_, rfl⟩
           have H9n := Lib.hid (show Four w_8_29 (w_7_22.heap.size) (.int .i64 las) (.int .i64 lan) (.string lax) (.int .i64 lat) 29 from by rw [← hwn]; exact four_set H9.out _ _ _ _)
           have H10n := Lib.hid (show Four w_8_29 (w_4_3.heap.size) (.int .i64 0) (.int .i64 0) (.string ⟨#[]⟩) (.int .i64 0) 29 from by rw [← hwn]; exact four_far H10.out (by have := hq.out; omega) _ _ _ _)
           have HXn := Lib.hid (And.intro (show Four w_8_29 p (.int .u8 rk) (.int .i64 rn) (.string rx) (.int .i64 rt) 23 from by rw [← hwn]; exact four_far HX.out.1 (by have := hl9.out; omega) _ _ _ _) (show Four w_8_29 (p + 1) (.int .u8 sk) (.int .i64 sn) (.string sx) (.int .i64 st) 23 from by rw [← hwn]; exact four_far HX.out.2 (by have := hl9.out; omega) _ _ _ _))
           have KWn := Lib.hid (show Below W.heap.size W w_8_29 from by rw [← hwn]; exact below_set KW.out (by have := HP.out; have := hl9.out; omega) _ _ _ _)
           clear H9 H10 HX KW
           have H9 := H9n
           have H10 := H10n
           have HX := HXn
           have KW := KWn
           clear H9n H10n HXn KWn
           try rw [hwn]
           refine hK.out _ _ HX.out (fun hHeld => ?_)
           clear hK K hwn f0 f1 f2 f3 c0 c1 c2 c3
           try simp only [Act.put, List.setIfInBounds_toArray, List.set_cons_zero, List.set_cons_succ, List.getElem_toArray, List.getElem_cons_zero, List.getElem_cons_succ]
           refine anyL_ready (rs := [9]) (by kernel_rfl) (by simp) ?_
           refine (AllL.last rfl (by kernel_rfl) (fun K hK => ?_) AllL.nil)
           ·
            have f0 := H10.out.f 0
            have f1 := H10.out.f 1
            have f2 := H10.out.f 2
            have f3 := H10.out.f 3
            obtain ⟨c0, c1, c2, c3⟩ := H10.out.c
            go_simp
            obtain ⟨w_9_30, hwn⟩ : ∃ z, (((w_8_29.setCell ⟨w_4_3.heap.size, 0, none⟩ (.int .i64 lbs)).setCell ⟨w_4_3.heap.size, 1, none⟩ (.int .i64 lbn)).setCell ⟨w_4_3.heap.size, 2, none⟩ (.string lbx)).setCell ⟨w_4_3.heap.size, 3, none⟩ (.int .i64 lbt) = z := ⟨_, rfl⟩
            have H10n := Lib.hid (show Four w_9_30 (w_4_3.heap.size) (.int .i64 lbs) (.int .i64 lbn) (.string lbx) (.int .i64 lbt) 29 from by rw [← hwn]; exact four_set H10.out _ _ _ _)
            have H9n := Lib.hid (show Four w_9_30 (w_7_22.heap.size) (.int .i64 las) (.int .i64 lan) (.string lax) (.int .i64 lat) 29 from by rw [← hwn]; exact four_far H9.out (by have := hq.out; omega) _ _ _ _)
            have HXn := Lib.hid (And.intro (show Four w_9_30 p (.int .u8 rk) (.int .i64 rn) (.string rx) (.int .i64 rt) 23 from by rw [← hwn]; exact four_far HX.out.1 (by have := hl10.out; omega) _ _ _ _) (show Four w_9_30 (p + 1) (.int .u8 sk) (.int .i64 sn) (.string sx) (.int .i64 st) 23 from by rw [← hwn]; exact four_far HX.out.2 (by have := hl10.out; omega) _ _ _ _))
            have KWn := Lib.hid (show Below W.heap.size W w_9_30 from by rw [← hwn]; exact below_set KW.out (by have := HP.out; have := hl10.out; omega) _ _ _ _)
            clear H9 H10 HX KW
            have H9 := H9n
            have H10 := H10n
            have HX := HXn
            have KW := KWn
            clear H9n H10n HXn KWn
            try rw [hwn]
            refine hK.out _ _ ?_
            clear hK K hwn f0 f1 f2 f3 c0 c1 c2 c3
            try simp only [Act.put, List.setIfInBounds_toArray, List.set_cons_zero, List.set_cons_succ, List.getElem_toArray, List.getElem_cons_zero, List.getElem_cons_succ]
            refine anyL_done (by kernel_rfl) ?_ _
            go_wp2_with fail
            go_meet
            exact ⟨_, _, rfl, rfl, H9.out, H10.out, HX.out.1, HX.out.2, KW.out⟩
      ·
       go_simp
       obtain ⟨w_6_31, hwn⟩ : ∃ z, w_2_2.alloc (.cells #[.int .i64 0, .int .i64 0, .string ⟨#[]⟩, .int .i64 0] 29) = z := ⟨_, rfl⟩
       have k9 : Bl w_2_2 w_6_31 := by rw [← hwn]; exact (Below.refl _ _).alloc (Nat.le_refl _) _
       have H9 := Lib.hid (show Four w_6_31 w_2_2.heap.size (.int .i64 0) (.int .i64 0) (.string ⟨#[]⟩) (.int .i64 0) 29 from by rw [← hwn]; exact Four.new w_2_2 _ _ _ _ _)
       have hl9 := Lib.hid (lt_at HX.out.2)
       
       have HXn := Lib.hid (And.intro (HX.out.1.on k9) (HX.out.2.on k9))
       have KWn := Lib.hid (KW.out.trans ((k9 : Bl w_2_2 w_6_31).mono KW.out.size))
       clear HX KW
       have HX := HXn
       have KW := KWn
       clear HXn KWn
       try rw [hwn]
       refine hK.out _ _ HX.out (fun hHeld => ?_)
       clear hK K k9 hwn
       try simp only [Act.put, List.setIfInBounds_toArray, List.set_cons_zero, List.set_cons_succ, List.getElem_toArray, List.getElem_cons_zero, List.getElem_cons_succ]
       refine anyL_ready (rs := [4, 7]) (by kernel_rfl) (by simp) ?_
       refine (AllL.cons rfl (fun K hK => ?_) (AllL.cons rfl (fun K hK => ?_) AllL.nil))
       ·
        go_simp
        refine (HB _).mono ?_
        rintro e w_4_32 ⟨rfl, k9⟩
        have HXn := Lib.hid (And.intro (HX.out.1.on k9) (HX.out.2.on k9))
        have KWn := Lib.hid (KW.out.trans ((k9 : Bl w_6_31 w_4_32).mono KW.out.size))
        clear HX KW
        have HX := HXn
        have KW := KWn
        clear HXn KWn
        have H9n := Lib.hid (H9.out.on k9)
        clear H9
        have H9 := H9n
        clear H9n
        go_wp2_with fail
        refine hK.out _ _ HX.out (fun hHeld => ?_)
        clear hK K k9
        try simp only [Act.put, List.setIfInBounds_toArray, List.set_cons_zero, List.set_cons_succ, List.getElem_toArray, List.getElem_cons_zero, List.getElem_cons_succ]
        refine anyL_ready (rs := [5, 7]) (by kernel_rfl) (by simp) ?_
        refine (AllL.cons rfl (fun K hK => ?_) (AllL.cons rfl (fun K hK => ?_) AllL.nil))
        ·
         go_simp
         refine (HLB _).mono ?_
         rintro e w_5_33 ⟨rfl, k9⟩
         have HXn := Lib.hid (And.intro (HX.out.1.on k9) (HX.out.2.on k9))
         have KWn := Lib.hid (KW.out.trans ((k9 : Bl w_4_32 w_5_33).mono KW.out.size))
         clear HX KW
         have HX := HXn
         have KW := KWn
         clear HXn KWn
         have H9n := Lib.hid (H9.out.on k9)
         clear H9
         have H9 := H9n
         clear H9n
         go_wp2_with fail
         refine hK.out _ _ HX.out (fun hHeld => ?_)
         clear hK K k9
         try simp only [Act.put, List.setIfInBounds_toArray, List.set_cons_zero, List.set_cons_succ, List.getElem_toArray, List.getElem_cons_zero, List.getElem_cons_succ]
         refine anyL_ready (rs := [7]) (by kernel_rfl) (by simp) ?_
         refine (AllL.cons rfl (fun K hK => ?_) AllL.nil)
         ·
          go_simp
          obtain ⟨w_7_34, hwn⟩ : ∃ z, w_5_33.alloc (.cells #[.int .i64 0, .int .i64 0, .string ⟨#[]⟩, .int .i64 0] 29) = z := ⟨_, rfl⟩
          have k9 : Bl w_5_33 w_7_34 := by rw [← hwn]; exact (Below.refl _ _).alloc (Nat.le_refl _) _
          have H10 := Lib.hid (show Four w_7_34 w_5_33.heap.size (.int .i64 0) (.int .i64 0) (.string ⟨#[]⟩) (.int .i64 0) 29 from by rw [← hwn]; exact Four.new w_5_33 _ _ _ _ _)
          have hl10 := Lib.hid (lt_at HX.out.2)
          have hq := Lib.hid (lt_at H9.out)
          have HXn := Lib.hid (And.intro (HX.out.1.on k9) (HX.out.2.on k9))
          have KWn := Lib.hid (KW.out.trans ((k9 : Bl w_5_33 w_7_34).mono KW.out.size))
          clear HX KW
          have HX := HXn
          have KW := KWn
          clear HXn KWn
          have H9n := Lib.hid (H9.out.on k9)
          clear H9
          have H9 := H9n
          clear H9n
          try rw [hwn]
          refine hK.out _ _ HX.out (fun hHeld => ?_)
          clear hK K k9 hwn
          try simp only [Act.put, List.setIfInBounds_toArray, List.set_cons_zero, List.set_cons_succ, List.getElem_toArray, List.getElem_cons_zero, List.getElem_cons_succ]
          refine anyL_ready (rs := [8]) (by kernel_rfl) (by simp) ?_
          refine (AllL.cons rfl (fun K hK => ?_) AllL.nil)
          ·
           have f0 := H9.out.f 0
           have f1 := H9.out.f 1
           have f2 := H9.out.f 2
           have f3 := H9.out.f 3
           obtain ⟨c0, c1, c2, c3⟩ := H9.out.c
           go_simp
           obtain ⟨w_8_35, hwn⟩ : ∃ z, (((w_7_34.setCell ⟨w_2_2.heap.size, 0, none⟩ (.int .i64 las)).setCell ⟨w_2_2.heap.size, 1, none⟩ (.int .i64 lan)).setCell ⟨w_2_2.heap.size, 2, none⟩ (.string lax)).setCell ⟨w_2_2.heap.size, 3, none⟩ (.int .i64 lat) = z := ⟨_, rfl⟩
           have H9n := Lib.hid (show Four w_8_35 (w_2_2.heap.size) (.int .i64 las) (.int .i64 lan) (.string lax) (.int .i64 lat) 29 from by rw [← hwn]; exact four_set H9.out _ _ _ _)
           have H10n := Lib.hid (show Four w_8_35 (w_5_33.heap.size) (.int .i64 0) (.int .i64 0) (.string ⟨#[]⟩) (.int .i64 0) 29 from by rw [← hwn]; exact four_far H10.out (by have := hq.out; omega) _ _ _ _)
           have HXn := Lib.hid (And.intro (show Four w_8_35 p (.int .u8 rk) (.int .i64 rn) (.string rx) (.int .i64 rt) 23 from by rw [← hwn]; exact four_far HX.out.1 (by have := hl9.out; omega) _ _ _ _) (show Four w_8_35 (p + 1) (.int .u8 sk) (.int .i64 sn) (.string sx) (.int .i64 st) 23 from by rw [← hwn]; exact four_far HX.out.2 (by have := hl9.out; omega) _ _ _ _))
           have KWn := Lib.hid (show Below W.heap.size W w_8_35 from by rw [← hwn]; exact below_set KW.out (by have := HP.out; have := hl9.out; omega) _ _ _ _)
           clear H9 H10 HX KW
           have H9 := H9n
           have H10 := H10n
           have HX := HXn
           have KW := KWn
           clear H9n H10n HXn KWn
           try rw [hwn]
           refine hK.out _ _ HX.out (fun hHeld => ?_)
           clear hK K hwn f0 f1 f2 f3 c0 c1 c2 c3
           try simp only [Act.put, List.setIfInBounds_toArray, List.set_cons_zero, List.set_cons_succ, List.getElem_toArray, List.getElem_cons_zero, List.getElem_cons_succ]
           refine anyL_ready (rs := [9]) (by kernel_rfl) (by simp) ?_
           refine (AllL.last rfl (by kernel_rfl) (fun K hK => ?_) AllL.nil)
           ·
            have f0 := H10.out.f 0
            have f1 := H10.out.f 1
            have f2 := H10.out.f 2
            have f3 := H10.out.f 3
            obtain ⟨c0, c1, c2, c3⟩ := H10.out.c
            go_simp
            obtain ⟨w_9_36, hwn⟩ : ∃ z, (((w_8_35.setCell ⟨w_5_33.heap.size, 0, none⟩ (.int .i64 lbs)).setCell ⟨w_5_33.heap.size, 1, none⟩ (.int .i64 lbn)).setCell ⟨w_5_33.heap.size, 2, none⟩ (.string lbx)).setCell ⟨w_5_33.heap.size, 3, none⟩ (.int .i64 lbt) = z := ⟨_, rfl⟩
            have H10n := Lib.hid (show Four w_9_36 (w_5_33.heap.size) (.int .i64 lbs) (.int .i64 lbn) (.string lbx) (.int .i64 lbt) 29 from by rw [← hwn]; exact four_set H10.out _ _ _ _)
            have H9n := Lib.hid (show Four w_9_36 (w_2_2.heap.size) (.int .i64 las) (.int .i64 lan) (.string lax) (.int .i64 lat) 29 from by rw [← hwn]; exact four_far H9.out (by have := hq.out; omega) _ _ _ _)
            have HXn := Lib.hid (And.intro (show Four w_9_36 p (.int .u8 rk) (.int .i64 rn) (.string rx) (.int .i64 rt) 23 from by rw [← hwn]; exact four_far HX.out.1 (by have := hl10.out; omega) _ _ _ _) (show Four w_9_36 (p + 1) (.int .u8 sk) (.int .i64 sn) (.string sx) (.int .i64 st) 23 from by rw [← hwn]; exact four_far HX.out.2 (by have := hl10.out; omega) _ _ _ _))
            have KWn := Lib.hid (show Below W.heap.size W w_9_36 from by rw [← hwn]; exact below_set KW.out (by have := HP.out; have := hl10.out; omega) _ _ _ _)
            clear H9 H10 HX KW
            have H9 := H9n
            have H10 := H10n
            have HX := HXn
            have KW := KWn
            clear H9n H10n HXn KWn
            try rw [hwn]
            refine hK.out _ _ ?_
            clear hK K hwn f0 f1 f2 f3 c0 c1 c2 c3
            try simp only [Act.put, List.setIfInBounds_toArray, List.set_cons_zero, List.set_cons_succ, List.getElem_toArray, List.getElem_cons_zero, List.getElem_cons_succ]
            refine anyL_done (by kernel_rfl) ?_ _
            go_wp2_with fail
            go_meet
            exact ⟨_, _, rfl, rfl, H9.out, H10.out, HX.out.1, HX.out.2, KW.out⟩
        ·
         go_simp
         obtain ⟨w_7_37, hwn⟩ : ∃ z, w_4_32.alloc (.cells #[.int .i64 0, .int .i64 0, .string ⟨#[]⟩, .int .i64 0] 29) = z := ⟨_, rfl⟩
         have k9 : Bl w_4_32 w_7_37 := by rw [← hwn]; exact (Below.refl _ _).alloc (Nat.le_refl _) _
         have H10 := Lib.hid (show Four w_7_37 w_4_32.heap.size (.int .i64 0) (.int .i64 0) (.string ⟨#[]⟩) (.int .i64 0) 29 from by rw [← hwn]; exact Four.new w_4_32 _ _ _ _ _)
         have hl10 := Lib.hid (lt_at HX.out.2)
         have hq := Lib.hid (lt_at H9.out)
         have HXn := Lib.hid (And.intro (HX.out.1.on k9) (HX.out.2.on k9))
         have KWn := Lib.hid (KW.out.trans ((k9 : Bl w_4_32 w_7_37).mono KW.out.size))
         clear HX KW
         have HX := HXn
         have KW := KWn
         clear HXn KWn
         have H9n := Lib.hid (H9.out.on k9)
         clear H9
         have H9 := H9n
         clear H9n
         try rw [hwn]
         refine hK.out _ _ HX.out (fun hHeld => ?_)
         clear hK K k9 hwn
         try simp only [Act.put, List.setIfInBounds_toArray, List.set_cons_zero, List.set_cons_succ, List.getElem_toArray, List.getElem_cons_zero, List.getElem_cons_succ]
         refine anyL_ready (rs := [5]) (by kernel_rfl) (by simp) ?_
         refine (AllL.cons rfl (fun K hK => ?_) AllL.nil)
         ·
          go_simp
          refine (HLB _).mono ?_
          rintro e w_5_38 ⟨rfl, k9⟩
          have HXn := Lib.hid (And.intro (HX.out.1.on k9) (HX.out.2.on k9))
          have KWn := Lib.hid (KW.out.trans ((k9 : Bl w_7_37 w_5_38).mono KW.out.size))
          clear HX KW
          have HX := HXn
          have KW := KWn
          clear HXn KWn
          have H9n := Lib.hid (H9.out.on k9)
          clear H9
          have H9 := H9n
          clear H9n
          have H10n := Lib.hid (H10.out.on k9)
          clear H10
          have H10 := H10n
          clear H10n
          go_wp2_with fail
          refine hK.out _ _ HX.out (fun hHeld => ?_)
          clear hK K k9
          try simp only [Act.put, List.setIfInBounds_toArray, List.set_cons_zero, List.set_cons_succ, List.getElem_toArray, List.getElem_cons_zero, List.getElem_cons_succ]
          refine anyL_ready (rs := [8]) (by kernel_rfl) (by simp) ?_
          refine (AllL.cons rfl (fun K hK => ?_) AllL.nil)
          ·
           have f0 := H9.out.f 0
           have f1 := H9.out.f 1
           have f2 := H9.out.f 2
           have f3 := H9.out.f 3
           obtain ⟨c0, c1, c2, c3⟩ := H9.out.c
           go_simp
           obtain ⟨w_8_39, hwn⟩ : ∃ z, (((w_5_38.setCell ⟨w_2_2.heap.size, 0, none⟩ (.int .i64 las)).setCell ⟨w_2_2.heap.size, 1, none⟩ (.int .i64 lan)).setCell ⟨w_2_2.heap.size, 2, none⟩ (.string lax)).setCell ⟨w_2_2.heap.size, 3, none⟩ (.int .i64 lat) = z := ⟨_, rfl⟩
           have H9n := Lib.hid (show Four w_8_39 (w_2_2.heap.size) (.int .i64 las) (.int .i64 lan) (.string lax) (.int .i64 lat) 29 from by rw [← hwn]; exact four_set H9.out _ _ _ _)
           have H10n := Lib.hid (show Four w_8_39 (w_4_32.heap.size) (.int .i64 0) (.int .i64 0) (.string ⟨#[]⟩) (.int .i64 0) 29 from by rw [← hwn]; exact four_far H10.out (by have := hq.out; omega) _ _ _ _)
           have HXn := Lib.hid (And.intro (show Four w_8_39 p (.int .u8 rk) (.int .i64 rn) (.string rx) (.int .i64 rt) 23 from by rw [← hwn]; exact four_far HX.out.1 (by have := hl9.out; omega) _ _ _ _) (show Four w_8_39 (p + 1) (.int .u8 sk) (.int .i64 sn) (.string sx) (.int .i64 st) 23 from by rw [← hwn]; exact four_far HX.out.2 (by have := hl9.out; omega) _ _ _ _))
           have KWn := Lib.hid (show Below W.heap.size W w_8_39 from by rw [← hwn]; exact below_set KW.out (by have := HP.out; have := hl9.out; omega) _ _ _ _)
           clear H9 H10 HX KW
           have H9 := H9n
           have H10 := H10n
           have HX := HXn
           have KW := KWn
           clear H9n H10n HXn KWn
           try rw [hwn]
           refine hK.out _ _ HX.out (fun hHeld => ?_)
           clear hK K hwn f0 f1 f2 f3 c0 c1 c2 c3
           try simp only [Act.put, List.setIfInBounds_toArray, List.set_cons_zero, List.set_cons_succ, List.getElem_toArray, List.getElem_cons_zero, List.getElem_cons_succ]
           refine anyL_ready (rs := [9]) (by kernel_rfl) (by simp) ?_
           refine (AllL.last rfl (by kernel_rfl) (fun K hK => ?_) AllL.nil)
           ·
            have f0 := H10.out.f 0
            have f1 := H10.out.f 1
            have f2 := H10.out.f 2
            have f3 := H10.out.f 3
            obtain ⟨c0, c1, c2, c3⟩ := H10.out.c
            go_simp
            obtain ⟨w_9_40, hwn⟩ : ∃ z, (((w_8_39.setCell ⟨w_4_32.heap.size, 0, none⟩ (.int .i64 lbs)).setCell ⟨w_4_32.heap.size, 1, none⟩ (.int .i64 lbn)).setCell ⟨w_4_32.heap.size, 2, none⟩ (.string lbx)).setCell ⟨w_4_32.heap.size, 3, none⟩ (.int .i64 lbt) = z := ⟨_, rfl⟩
            have H10n := Lib.hid (show Four w_9_40 (w_4_32.heap.size) (.int .i64 lbs) (.int .i64 lbn) (.string lbx) (.int .i64 lbt) 29 from by rw [← hwn]; exact four_set H10.out _ _ _ _)
            have H9n := Lib.hid (show Four w_9_40 (w_2_2.heap.size) (.int .i64 las) (.int .i64 lan) (.string lax) (.int .i64 lat) 29 from by rw [← hwn]; exact four_far H9.out (by have := hq.out; omega) _ _ _ _)
            have HXn := Lib.hid (And.intro (show Four w_9_40 p (.int .u8 rk) (.int .i64 rn) (.string rx) (.int .i64 rt) 23 from by rw [← hwn]; exact four_far HX.out.1 (by have := hl10.out; omega) _ _ _ _) (show Four w_9_40 (p + 1) (.int .u8 sk) (.int .i64 sn) (.string sx) (.int .i64 st) 23 from by rw [← hwn]; exact four_far HX.out.2 (by have := hl10.out; omega) _ _ _ _))
            have KWn := Lib.hid (show Below W.heap.size W w_9_40 from by rw [← hwn]; exact below_set KW.out (by have := HP.out; have := hl10.out; omega) _ _ _ _)
            clear H9 H10 HX KW
            have H9 := H9n
            have H10 := H10n
            have HX := HXn
            have KW := KWn
            clear H9n H10n HXn KWn
            try rw [hwn]
            refine hK.out _ _ ?_
            clear hK K hwn f0 f1 f2 f3 c0 c1 c2 c3
            try simp only [Act.put, List.setIfInBounds_toArray, List.set_cons_zero, List.set_cons_succ, List.getElem_toArray, List.getElem_cons_zero, List.getElem_cons_succ]
            refine anyL_done (by kernel_rfl) ?_ _
            go_wp2_with fail
            go_meet
            exact ⟨_, _, rfl, rfl, H9.out, H10.out, HX.out.1, HX.out.2, KW.out⟩
       ·
        go_simp
        obtain ⟨w_7_41, hwn⟩ : ∃ z, w_6_31.alloc (.cells #[.int .i64 0, .int .i64 0, .string ⟨#[]⟩, .int .i64 0] 29) = z := ⟨_, rfl⟩
        have k9 : Bl w_6_31 w_7_41 := by rw [← hwn]; exact (Below.refl _ _).alloc (Nat.le_refl _) _
        have H10 := Lib.hid (show Four w_7_41 w_6_31.heap.size (.int .i64 0) (.int .i64 0) (.string ⟨#[]⟩) (.int .i64 0) 29 from by rw [← hwn]; exact Four.new w_6_31 _ _ _ _ _)
        have hl10 := Lib.hid (lt_at HX.out.2)
        have hq := Lib.hid (lt_at H9.out)
        have HXn := Lib.hid (And.intro (HX.out.1.on k9) (HX.out.2.on k9))
        have KWn := Lib.hid (KW.out.trans ((k9 : Bl w_6_31 w_7_41).mono KW.out.size))
        clear HX KW
        have HX := HXn
        have KW := KWn
        clear HXn KWn
        have H9n := Lib.hid (H9.out.on k9)
        clear H9
        have H9 := H9n
        clear H9n
        try rw [hwn]
        refine hK.out _ _ HX.out (fun hHeld => ?_)
        clear hK K k9 hwn
        try simp only [Act.put, List.setIfInBounds_toArray, List.set_cons_zero, List.set_cons_succ, List.getElem_toArray, List.getElem_cons_zero, List.getElem_cons_succ]
        refine anyL_ready (rs := [4]) (by kernel_rfl) (by simp) ?_
        refine (AllL.cons rfl (fun K hK => ?_) AllL.nil)
        ·
         go_simp
         refine (HB _).mono ?_
         rintro e w_4_42 ⟨rfl, k9⟩
         have HXn := Lib.hid (And.intro (HX.out.1.on k9) (HX.out.2.on k9))
         have KWn := Lib.hid (KW.out.trans ((k9 : Bl w_7_41 w_4_42).mono KW.out.size))
         clear HX KW
         have HX := HXn
         have KW := KWn
         clear HXn KWn
         have H9n := Lib.hid (H9.out.on k9)
         clear H9
         have H9 := H9n
         clear H9n
         have H10n := Lib.hid (H10.out.on k9)
         clear H10
         have H10 := H10n
         clear H10n
         go_wp2_with fail
         refine hK.out _ _ HX.out (fun hHeld => ?_)
         clear hK K k9
         try simp only [Act.put, List.setIfInBounds_toArray, List.set_cons_zero, List.set_cons_succ, List.getElem_toArray, List.getElem_cons_zero, List.getElem_cons_succ]
         refine anyL_ready (rs := [5]) (by kernel_rfl) (by simp) ?_
         refine (AllL.cons rfl (fun K hK => ?_) AllL.nil)
         ·
          go_simp
          refine (HLB _).mono ?_
          rintro e w_5_43 ⟨rfl, k9⟩
          have HXn := Lib.hid (And.intro (HX.out.1.on k9) (HX.out.2.on k9))
          have KWn := Lib.hid (KW.out.trans ((k9 : Bl w_4_42 w_5_43).mono KW.out.size))
          clear HX KW
          have HX := HXn
          have KW := KWn
          clear HXn KWn
          have H9n := Lib.hid (H9.out.on k9)
          clear H9
          have H9 := H9n
          clear H9n
          have H10n := Lib.hid (H10.out.on k9)
          clear H10
          have H10 := H10n
          clear H10n
          go_wp2_with fail
          refine hK.out _ _ HX.out (fun hHeld => ?_)
          clear hK K k9
          try simp only [Act.put, List.setIfInBounds_toArray, List.set_cons_zero, List.set_cons_succ, List.getElem_toArray, List.getElem_cons_zero, List.getElem_cons_succ]
          refine anyL_ready (rs := [8]) (by kernel_rfl) (by simp) ?_
          refine (AllL.cons rfl (fun K hK => ?_) AllL.nil)
          ·
           have f0 := H9.out.f 0
           have f1 := H9.out.f 1
           have f2 := H9.out.f 2
           have f3 := H9.out.f 3
           obtain ⟨c0, c1, c2, c3⟩ := H9.out.c
           go_simp
           obtain ⟨w_8_44, hwn⟩ : ∃ z, (((w_5_43.setCell ⟨w_2_2.heap.size, 0, none⟩ (.int .i64 las)).setCell ⟨w_2_2.heap.size, 1, none⟩ (.int .i64 lan)).setCell ⟨w_2_2.heap.size, 2, none⟩ (.string lax)).setCell ⟨w_2_2.heap.size, 3, none⟩ (.int .i64 lat) = z := ⟨_, rfl⟩
           have H9n := Lib.hid (show Four w_8_44 (w_2_2.heap.size) (.int .i64 las) (.int .i64 lan) (.string lax) (.int .i64 lat) 29 from by rw [← hwn]; exact four_set H9.out _ _ _ _)
           have H10n := Lib.hid (show Four w_8_44 (w_6_31.heap.size) (.int .i64 0) (.int .i64 0) (.string ⟨#[]⟩) (.int .i64 0) 29 from by rw [← hwn]; exact four_far H10.out (by have := hq.out; omega) _ _ _ _)
           have HXn := Lib.hid (And.intro (show Four w_8_44 p (.int .u8 rk) (.int .i64 rn) (.string rx) (.int .i64 rt) 23 from by rw [← hwn]; exact four_far HX.out.1 (by have := hl9.out; omega) _ _ _ _) (show Four w_8_44 (p + 1) (.int .u8 sk) (.int .i64 sn) (.string sx) (.int .i64 st) 23 from by rw [← hwn]; exact four_far HX.out.2 (by have := hl9.out; omega) _ _ _ _))
           have KWn := Lib.hid (show Below W.heap.size W w_8_44 from by rw [← hwn]; exact below_set KW.out (by have := HP.out; have := hl9.out; omega) _ _ _ _)
           clear H9 H10 HX KW
           have H9 := H9n
           have H10 := H10n
           have HX := HXn
           have KW := KWn
           clear H9n H10n HXn KWn
           try rw [hwn]
           refine hK.out _ _ HX.out (fun hHeld => ?_)
           clear hK K hwn f0 f1 f2 f3 c0 c1 c2 c3
           try simp only [Act.put, List.setIfInBounds_toArray, List.set_cons_zero, List.set_cons_succ, List.getElem_toArray, List.getElem_cons_zero, List.getElem_cons_succ]
           refine anyL_ready (rs := [9]) (by kernel_rfl) (by simp) ?_
           refine (AllL.last rfl (by kernel_rfl) (fun K hK => ?_) AllL.nil)
           ·
            have f0 := H10.out.f 0
            have f1 := H10.out.f 1
            have f2 := H10.out.f 2
            have f3 := H10.out.f 3
            obtain ⟨c0, c1, c2, c3⟩ := H10.out.c
            go_simp
            obtain ⟨w_9_45, hwn⟩ : ∃ z, (((w_8_44.setCell ⟨w_6_31.heap.size, 0, none⟩ (.int .i64 lbs)).setCell ⟨w_6_31.heap.size, 1, none⟩ (.int .i64 lbn)).setCell ⟨w_6_31.heap.size, 2, none⟩ (.string lbx)).setCell ⟨w_6_31.heap.size, 3, none⟩ (.int .i64 lbt) = z := ⟨_, rfl⟩
            have H10n := Lib.hid (show Four w_9_45 (w_6_31.heap.size) (.int .i64 lbs) (.int .i64 lbn) (.string lbx) (.int .i64 lbt) 29 from by rw [← hwn]; exact four_set H10.out _ _ _ _)
            have H9n := Lib.hid (show Four w_9_45 (w_2_2.heap.size) (.int .i64 las) (.int .i64 lan) (.string lax) (.int .i64 lat) 29 from by rw [← hwn]; exact four_far H9.out (by have := hq.out; omega) _ _ _ _)
            have HXn := Lib.hid (And.intro (show Four w_9_45 p (.int .u8 rk) (.int .i64 rn) (.string rx) (.int .i64 rt) 23 from by rw [← hwn]; exact four_far HX.out.1 (by have := hl10.out; omega) _ _ _ _) (show Four w_9_45 (p + 1) (.int .u8 sk) (.int .i64 sn) (.string sx) (.int .i64 st) 23 from by rw [← hwn]; exact four_far HX.out.2 (by have := hl10.out; omega) _ _ _ _))
            have KWn := Lib.hid (show Below W.heap.size W w_9_45 from by rw [← hwn]; exact below_set KW.out (by have := HP.out; have := hl10.out; omega) _ _ _ _)
            clear H9 H10 HX KW
            have H9 := H9n
            have H10 := H10n
            have HX := HXn
            have KW := KWn
            clear H9n H10n HXn KWn
            try rw [hwn]
            refine hK.out _ _ ?_
            clear hK K hwn f0 f1 f2 f3 c0 c1 c2 c3
            try simp only [Act.put, List.setIfInBounds_toArray, List.set_cons_zero, List.set_cons_succ, List.getElem_toArray, List.getElem_cons_zero, List.getElem_cons_succ]
            refine anyL_done (by kernel_rfl) ?_ _
            go_wp2_with fail
            go_meet
            exact ⟨_, _, rfl, rfl, H9.out, H10.out, HX.out.1, HX.out.2, KW.out⟩
      ·
       go_simp
       obtain ⟨w_7_46, hwn⟩ : ∃ z, w_2_2.alloc (.cells #[.int .i64 0, .int .i64 0, .string ⟨#[]⟩, .int .i64 0] 29) = z := ⟨_, rfl⟩
       have k9 : Bl w_2_2 w_7_46 := by rw [← hwn]; exact (Below.refl _ _).alloc (Nat.le_refl _) _
       have H10 := Lib.hid (show Four w_7_46 w_2_2.heap.size (.int .i64 0) (.int .i64 0) (.string ⟨#[]⟩) (.int .i64 0) 29 from by rw [← hwn]; exact Four.new w_2_2 _ _ _ _ _)
       have hl10 := Lib.hid (lt_at HX.out.2)
       
       have HXn := Lib.hid (And.intro (HX.out.1.on k9) (HX.out.2.on k9))
       have KWn := Lib.hid (KW.out.trans ((k9 : Bl w_2_2 w_7_46).mono KW.out.size))
       clear HX KW
       have HX := HXn
       have KW := KWn
       clear HXn KWn
       try rw [hwn]
       refine hK.out _ _ HX.out (fun hHeld => ?_)
       clear hK K k9 hwn
       try simp only [Act.put, List.setIfInBounds_toArray, List.set_cons_zero, List.set_cons_succ, List.getElem_toArray, List.getElem_cons_zero, List.getElem_cons_succ]
       refine anyL_ready (rs := [4, 6]) (by kernel_rfl) (by simp) ?_
       refine (AllL.cons rfl (fun K hK => ?_) (AllL.cons rfl (fun K hK => ?_) AllL.nil))
       ·
        go_simp
        refine (HB _).mono ?_
        rintro e w_4_47 ⟨rfl, k9⟩
        have HXn := Lib.hid (And.intro (HX.out.1.on k9) (HX.out.2.on k9))
        have KWn := Lib.hid (KW.out.trans ((k9 : Bl w_7_46 w_4_47).mono KW.out.size))
        clear HX KW
        have HX := HXn
        have KW := KWn
        clear HXn KWn
        have H10n := Lib.hid (H10.out.on k9)
        clear H10
        have H10 := H10n
        clear H10n
        go_wp2_with fail
        refine hK.out _ _ HX.out (fun hHeld => ?_)
        clear hK K k9
        try simp only [Act.put, List.setIfInBounds_toArray, List.set_cons_zero, List.set_cons_succ, List.getElem_toArray, List.getElem_cons_zero, List.getElem_cons_succ]
        refine anyL_ready (rs := [5, 6]) (by kernel_rfl) (by simp) ?_
        refine (AllL.cons rfl (fun K hK => ?_) (AllL.cons rfl (fun K hK => ?_) AllL.nil))
        ·
         go_simp
         refine (HLB _).mono ?_
         rintro e w_5_48 ⟨rfl, k9⟩
         have HXn := Lib.hid (And.intro (HX.out.1.on k9) (HX.out.2.on k9))
         have KWn := Lib.hid (KW.out.trans ((k9 : Bl w_4_47 w_5_48).mono KW.out.size))
         clear HX KW
         have HX := HXn
         have KW := KWn
         clear HXn KWn
         have H10n := Lib.hid (H10.out.on k9)
         clear H10
         have H10 := H10n
         clear H10n
         go_wp2_with fail
         refine hK.out _ _ HX.out (fun hHeld => ?_)
         clear hK K k9
         try simp only [Act.put, List.setIfInBounds_toArray, List.set_cons_zero, List.set_cons_succ, List.getElem_toArray, List.getElem_cons_zero, List.getElem_cons_succ]
         refine anyL_ready (rs := [6]) (by kernel_rfl) (by simp) ?_
         refine (AllL.cons rfl (fun K hK => ?_) AllL.nil)
         ·
          go_simp
          obtain ⟨w_6_49, hwn⟩ : ∃ z, w_5_48.alloc (.cells #[.int .i64 0, .int .i64 0, .string ⟨#[]⟩, .int .i64 0] 29) = z := ⟨_, rfl⟩
          have k9 : Bl w_5_48 w_6_49 := by rw [← hwn]; exact (Below.refl _ _).alloc (Nat.le_refl _) _
          have H9 := Lib.hid (show Four w_6_49 w_5_48.heap.size (.int .i64 0) (.int .i64 0) (.string ⟨#[]⟩) (.int .i64 0) 29 from by rw [← hwn]; exact Four.new w_5_48 _ _ _ _ _)
          have hl9 := Lib.hid (lt_at HX.out.2)
          have hq := Lib.hid (lt_at H10.out)
          have HXn := Lib.hid (And.intro (HX.out.1.on k9) (HX.out.2.on k9))
          have KWn := Lib.hid (KW.out.trans ((k9 : Bl w_5_48 w_6_49).mono KW.out.size))
          clear HX KW
          have HX := HXn
          have KW := KWn
          clear HXn KWn
          have H10n := Lib.hid (H10.out.on k9)
          clear H10
          have H10 := H10n
          clear H10n
          try rw [hwn]
          refine hK.out _ _ HX.out (fun hHeld => ?_)
          clear hK K k9 hwn
          try simp only [Act.put, List.setIfInBounds_toArray, List.set_cons_zero, List.set_cons_succ, List.getElem_toArray, List.getElem_cons_zero, List.getElem_cons_succ]
          refine anyL_ready (rs := [8]) (by kernel_rfl) (by simp) ?_
          refine (AllL.cons rfl (fun K hK => ?_) AllL.nil)
          ·
           have f0 := H9.out.f 0
           have f1 := H9.out.f 1
           have f2 := H9.out.f 2
           have f3 := H9.out.f 3
           obtain ⟨c0, c1, c2, c3⟩ := H9.out.c
           go_simp
           obtain ⟨w_8_50, hwn⟩ : ∃ z, (((w_6_49.setCell ⟨w_5_48.heap.size, 0, none⟩ (.int .i64 las)).setCell ⟨w_5_48.heap.size, 1, none⟩ (.int .i64 lan)).setCell ⟨w_5_48.heap.size, 2, none⟩ (.string lax)).setCell ⟨w_5_48.heap.size, 3, none⟩ (.int .i64 lat) = z := ⟨_, rfl⟩
           have H9n := Lib.hid (show Four w_8_50 (w_5_48.heap.size) (.int .i64 las) (.int .i64 lan) (.string lax) (.int .i64 lat) 29 from by rw [← hwn]; exact four_set H9.out _ _ _ _)
           have H10n := Lib.hid (show Four w_8_50 (w_2_2.heap.size) (.int .i64 0) (.int .i64 0) (.string ⟨#[]⟩) (.int .i64 0) 29 from by rw [← hwn]; exact four_far H10.out (by have := hq.out; omega) _ _ _ _)
           have HXn := Lib.hid (And.intro (show Four w_8_50 p (.int .u8 rk) (.int .i64 rn) (.string rx) (.int .i64 rt) 23 from by rw [← hwn]; exact four_far HX.out.1 (by have := hl9.out; omega) _ _ _ _) (show Four w_8_50 (p + 1) (.int .u8 sk) (.int .i64 sn) (.string sx) (.int .i64 st) 23 from by rw [← hwn]; exact four_far HX.out.2 (by have := hl9.out; omega) _ _ _ _))
           have KWn := Lib.hid (show Below W.heap.size W w_8_50 from by rw [← hwn]; exact below_set KW.out (by have := HP.out; have := hl9.out; omega) _ _ _ _)
           clear H9 H10 HX KW
           have H9 := H9n
           have H10 := H10n
           have HX := HXn
           have KW := KWn
           clear H9n H10n HXn KWn
           try rw [hwn]
           refine hK.out _ _ HX.out (fun hHeld => ?_)
           clear hK K hwn f0 f1 f2 f3 c0 c1 c2 c3
           try simp only [Act.put, List.setIfInBounds_toArray, List.set_cons_zero, List.set_cons_succ, List.getElem_toArray, List.getElem_cons_zero, List.getElem_cons_succ]
           refine anyL_ready (rs := [9]) (by kernel_rfl) (by simp) ?_
           refine (AllL.last rfl (by kernel_rfl) (fun K hK => ?_) AllL.nil)
           ·
            have f0 := H10.out.f 0
            have f1 := H10.out.f 1
            have f2 := H10.out.f 2
            have f3 := H10.out.f 3
            obtain ⟨c0, c1, c2, c3⟩ := H10.out.c
            go_simp
            obtain ⟨w_9_51, hwn⟩ : ∃ z, (((w_8_50.setCell ⟨w_2_2.heap.size, 0, none⟩ (.int .i64 lbs)).setCell ⟨w_2_2.heap.size, 1, none⟩ (.int .i64 lbn)).setCell ⟨w_2_2.heap.size, 2, none⟩ (.string lbx)).setCell ⟨w_2_2.heap.size, 3, none⟩ (.int .i64 lbt) = z := ⟨_, rfl⟩
            have H10n := Lib.hid (show Four w_9_51 (w_2_2.heap.size) (.int .i64 lbs) (.int .i64 lbn) (.string lbx) (.int .i64 lbt) 29 from by rw [← hwn]; exact four_set H10.out _ _ _ _)
            have H9n := Lib.hid (show Four w_9_51 (w_5_48.heap.size) (.int .i64 las) (.int .i64 lan) (.string lax) (.int .i64 lat) 29 from by rw [← hwn]; exact four_far H9.out (by have := hq.out; omega) _ _ _ _)
            have HXn := Lib.hid (And.intro (show Four w_9_51 p (.int .u8 rk) (.int .i64 rn) (.string rx) (.int .i64 rt) 23 from by rw [← hwn]; exact four_far HX.out.1 (by have := hl10.out; omega) _ _ _ _) (show Four w_9_51 (p + 1) (.int .u8 sk) (.int .i64 sn) (.string sx) (.int .i64 st) 23 from by rw [← hwn]; exact four_far HX.out.2 (by have := hl10.out; omega) _ _ _ _))
            have KWn := Lib.hid (show Below W.heap.size W w_9_51 from by rw [← hwn]; exact below_set KW.out (by have := HP.out; have := hl10.out; omega) _ _ _ _)
            clear H9 H10 HX KW
            have H9 := H9n
            have H10 := H10n
            have HX := HXn
            have KW := KWn
            clear H9n H10n HXn KWn
            try rw [hwn]
            refine hK.out _ _ ?_
            clear hK K hwn f0 f1 f2 f3 c0 c1 c2 c3
            try simp only [Act.put, List.setIfInBounds_toArray, List.set_cons_zero, List.set_cons_succ, List.getElem_toArray, List.getElem_cons_zero, List.getElem_cons_succ]
            refine anyL_done (by kernel_rfl) ?_ _
            go_wp2_with fail
            go_meet
            exact ⟨_, _, rfl, rfl, H9.out, H10.out, HX.out.1, HX.out.2, KW.out⟩
        ·
         go_simp
         obtain ⟨w_6_52, hwn⟩ : ∃ z, w_4_47.alloc (.cells #[.int .i64 0, .int .i64 0, .string ⟨#[]⟩, .int .i64 0] 29) = z := ⟨_, rfl⟩
         have k9 : Bl w_4_47 w_6_52 := by rw [← hwn]; exact (Below.refl _ _).alloc (Nat.le_refl _) _
         have H9 := Lib.hid (show Four w_6_52 w_4_47.heap.size (.int .i64 0) (.int .i64 0) (.string ⟨#[]⟩) (.int .i64 0) 29 from by rw [← hwn]; exact Four.new w_4_47 _ _ _ _ _)
         have hl9 := Lib.hid (lt_at HX.out.2)
         have hq := Lib.hid (lt_at H10.out)
         have HXn := Lib.hid (And.intro (HX.out.1.on k9) (HX.out.2.on k9))
         have KWn := Lib.hid (KW.out.trans ((k9 : Bl w_4_47 w_6_52).mono KW.out.size))
         clear HX KW
         have HX := HXn
         have KW := KWn
         clear HXn KWn
         have H10n := Lib.hid (H10.out.on k9)
         clear H10
         have H10 := H10n
         clear H10n
         try rw [hwn]
         refine hK.out _ _ HX.out (fun hHeld => ?_)
         clear hK K k9 hwn
         try simp only [Act.put, List.setIfInBounds_toArray, List.set_cons_zero, List.set_cons_succ, List.getElem_toArray, List.getElem_cons_zero, List.getElem_cons_succ]
         refine anyL_ready (rs := [5]) (by kernel_rfl) (by simp) ?_
         refine (AllL.cons rfl (fun K hK => ?_) AllL.nil)
         ·
          go_simp
          refine (HLB _).mono ?_
          rintro e w_5_53 ⟨rfl, k9⟩
          have HXn := Lib.hid (And.intro (HX.out.1.on k9) (HX.out.2.on k9))
          have KWn := Lib.hid (KW.out.trans ((k9 : Bl w_6_52 w_5_53).mono KW.out.size))
          clear HX KW
          have HX := HXn
          have KW := KWn
          clear HXn KWn
          have H10n := Lib.hid (H10.out.on k9)
          clear H10
          have H10 := H10n
          clear H10n
          have H9n := Lib.hid (H9.out.on k9)
          clear H9
          have H9 := H9n
          clear H9n
          go_wp2_with fail
          refine hK.out _ _ HX.out (fun hHeld => ?_)
          clear hK K k9
          try simp only [Act.put, List.setIfInBounds_toArray, List.set_cons_zero, List.set_cons_succ, List.getElem_toArray, List.getElem_cons_zero, List.getElem_cons_succ]
          refine anyL_ready (rs := [8]) (by kernel_rfl) (by simp) ?_
          refine (AllL.cons rfl (fun K hK => ?_) AllL.nil)
          ·
           have f0 := H9.out.f 0
           have f1 := H9.out.f 1
           have f2 := H9.out.f 2
           have f3 := H9.out.f 3
           obtain ⟨c0, c1, c2, c3⟩ := H9.out.c
           go_simp
           obtain ⟨w_8_54, hwn⟩ : ∃ z, (((w_5_53.setCell ⟨w_4_47.heap.size, 0, none⟩ (.int .i64 las)).setCell ⟨w_4_47.heap.size, 1, none⟩ (.int .i64 lan)).setCell ⟨w_4_47.heap.size, 2, none⟩ (.string lax)).setCell ⟨w_4_47.heap.size, 3, none⟩ (.int .i64 lat) = z := ⟨_, rfl⟩
           have H9n := Lib.hid (show Four w_8_54 (w_4_47.heap.size) (.int .i64 las) (.int .i64 lan) (.string lax) (.int .i64 lat) 29 from by rw [← hwn]; exact four_set H9.out _ _ _ _)
           have H10n := Lib.hid (show Four w_8_54 (w_2_2.heap.size) (.int .i64 0) (.int .i64 0) (.string ⟨#[]⟩) (.int .i64 0) 29 from by rw [← hwn]; exact four_far H10.out (by have := hq.out; omega) _ _ _ _)
           have HXn := Lib.hid (And.intro (show Four w_8_54 p (.int .u8 rk) (.int .i64 rn) (.string rx) (.int .i64 rt) 23 from by rw [← hwn]; exact four_far HX.out.1 (by have := hl9.out; omega) _ _ _ _) (show Four w_8_54 (p + 1) (.int .u8 sk) (.int .i64 sn) (.string sx) (.int .i64 st) 23 from by rw [← hwn]; exact four_far HX.out.2 (by have := hl9.out; omega) _ _ _ _))
           have KWn := Lib.hid (show Below W.heap.size W w_8_54 from by rw [← hwn]; exact below_set KW.out (by have := HP.out; have := hl9.out; omega) _ _ _ _)
           clear H9 H10 HX KW
           have H9 := H9n
           have H10 := H10n
           have HX := HXn
           have KW := KWn
           clear H9n H10n HXn KWn
           try rw [hwn]
           refine hK.out _ _ HX.out (fun hHeld => ?_)
           clear hK K hwn f0 f1 f2 f3 c0 c1 c2 c3
           try simp only [Act.put, List.setIfInBounds_toArray, List.set_cons_zero, List.set_cons_succ, List.getElem_toArray, List.getElem_cons_zero, List.getElem_cons_succ]
           refine anyL_ready (rs := [9]) (by kernel_rfl) (by simp) ?_
           refine (AllL.last rfl (by kernel_rfl) (fun K hK => ?_) AllL.nil)
           ·
            have f0 := H10.out.f 0
            have f1 := H10.out.f 1
            have f2 := H10.out.f 2
            have f3 := H10.out.f 3
            obtain ⟨c0, c1, c2, c3⟩ := H10.out.c
            go_simp
            obtain ⟨w_9_55, hwn⟩ : ∃ z, (((w_8_54.setCell ⟨w_2_2.heap.size, 0, none⟩ (.int .i64 lbs)).setCell ⟨w_2_2.heap.size, 1, none⟩ (.int .i64 lbn)).setCell ⟨w_2_2.heap.size, 2, none⟩ (.string lbx)).setCell ⟨w_2_2.heap.size, 3, none⟩ (.int .i64 lbt) = z := ⟨_, rfl⟩
            have H10n := Lib.hid (show Four w_9_55 (w_2_2.heap.size) (.int .i64 lbs) (.int .i64 lbn) (.string lbx) (.int .i64 lbt) 29 from by rw [← hwn]; exact four_set H10.out _ _ _ _)
            have H9n := Lib.hid (show Four w_9_55 (w_4_47.heap.size) (.int .i64 las) (.int .i64 lan) (.string lax) (.int .i64 lat) 29 from by rw [← hwn]; exact four_far H9.out (by have := hq.out; omega) _ _ _ _)
            have HXn := Lib.hid (And.intro (show Four w_9_55 p (.int .u8 rk) (.int .i64 rn) (.string rx) (.int .i64 rt) 23 from by rw [← hwn]; exact four_far HX.out.1 (by have := hl10.out; omega) _ _ _ _) (show Four w_9_55 (p + 1) (.int .u8 sk) (.int .i64 sn) (.string sx) (.int .i64 st) 23 from by rw [← hwn]; exact four_far HX.out.2 (by have := hl10.out; omega) _ _ _ _))
            have KWn := Lib.hid (show Below W.heap.size W w_9_55 from by rw [← hwn]; exact below_set KW.out (by have := HP.out; have := hl10.out; omega) _ _ _ _)
            clear H9 H10 HX KW
            have H9 := H9n
            have H10 := H10n
            have HX := HXn
            have KW := KWn
            clear H9n H10n HXn KWn
            try rw [hwn]
            refine hK.out _ _ ?_
            clear hK K hwn f0 f1 f2 f3 c0 c1 c2 c3
            try simp only [Act.put, List.setIfInBounds_toArray, List.set_cons_zero, List.set_cons_succ, List.getElem_toArray, List.getElem_cons_zero, List.getElem_cons_succ]
            refine anyL_done (by kernel_rfl) ?_ _
            go_wp2_with fail
            go_meet
            exact ⟨_, _, rfl, rfl, H9.out, H10.out, HX.out.1, HX.out.2, KW.out⟩
       ·
        go_simp
        obtain ⟨w_6_56, hwn⟩ : ∃ z, w_7_46.alloc (.cells #[.int .i64 0, .int .i64 0, .string ⟨#[]⟩, .int .i64 0] 29) = z := ⟨_, rfl⟩
        have k9 : Bl w_7_46 w_6_56 := by rw [← hwn]; exact (Below.refl _ _).alloc (Nat.le_refl _) _
        have H9 := Lib.hid (show Four w_6_56 w_7_46.heap.size (.int .i64 0) (.int .i64 0) (.string ⟨#[]⟩) (.int .i64 0) 29 from by rw [← hwn]; exact Four.new w_7_46 _ _ _ _ _)
        have hl9 := Lib.hid (lt_at HX.out.2)
        have hq := Lib.hid (lt_at H10.out)
        have HXn := Lib.hid (And.intro (HX.out.1.on k9) (HX.out.2.on k9))
        have KWn := Lib.hid (KW.out.trans ((k9 : Bl w_7_46 w_6_56).mono KW.out.size))
        clear HX KW
        have HX := HXn
        have KW := KWn
        clear HXn KWn
        have H10n := Lib.hid (H10.out.on k9)
        clear H10
        have H10 := H10n
        clear H10n
        try rw [hwn]
        refine hK.out _ _ HX.out (fun hHeld => ?_)
        clear hK K k9 hwn
        try simp only [Act.put, List.setIfInBounds_toArray, List.set_cons_zero, List.set_cons_succ, List.getElem_toArray, List.getElem_cons_zero, List.getElem_cons_succ]
        refine anyL_ready (rs := [4]) (by kernel_rfl) (by simp) ?_
        refine (AllL.cons rfl (fun K hK => ?_) AllL.nil)
        ·
         go_simp
         refine (HB _).mono ?_
         rintro e w_4_57 ⟨rfl, k9⟩
         have HXn := Lib.hid (And.intro (HX.out.1.on k9) (HX.out.2.on k9))
         have KWn := Lib.hid (KW.out.trans ((k9 : Bl w_6_56 w_4_57).mono KW.out.size))
         clear HX KW
         have HX := HXn
         have KW := KWn
         clear HXn KWn
         have H10n := Lib.hid (H10.out.on k9)
         clear H10
         have H10 := H10n
         clear H10n
         have H9n := Lib.hid (H9.out.on k9)
         clear H9
         have H9 := H9n
         clear H9n
         go_wp2_with fail
         refine hK.out _ _ HX.out (fun hHeld => ?_)
         clear hK K k9
         try simp only [Act.put, List.setIfInBounds_toArray, List.set_cons_zero, List.set_cons_succ, List.getElem_toArray, List.getElem_cons_zero, List.getElem_cons_succ]
         refine anyL_ready (rs := [5]) (by kernel_rfl) (by simp) ?_
         refine (AllL.cons rfl (fun K hK => ?_) AllL.nil)
         ·
          go_simp
          refine (HLB _).mono ?_
          rintro e w_5_58 ⟨rfl, k9⟩
          have HXn := Lib.hid (And.intro (HX.out.1.on k9) (HX.out.2.on k9))
          have KWn := Lib.hid (KW.out.trans ((k9 : Bl w_4_57 w_5_58).mono KW.out.size))
          clear HX KW
          have HX := HXn
          have KW := KWn
          clear HXn KWn
          have H10n := Lib.hid (H10.out.on k9)
          clear H10
          have H10 := H10n
          clear H10n
          have H9n := Lib.hid (H9.out.on k9)
          clear H9
          have H9 := H9n
          clear H9n
          go_wp2_with fail
          refine hK.out _ _ HX.out (fun hHeld => ?_)
          clear hK K k9
          try simp only [Act.put, List.setIfInBounds_toArray, List.set_cons_zero, List.set_cons_succ, List.getElem_toArray, List.getElem_cons_zero, List.getElem_cons_succ]
          refine anyL_ready (rs := [8]) (by kernel_rfl) (by simp) ?_
          refine (AllL.cons rfl (fun K hK => ?_) AllL.nil)
          ·
           have f0 := H9.out.f 0
           have f1 := H9.out.f 1
           have f2 := H9.out.f 2
           have f3 := H9.out.f 3
           obtain ⟨c0, c1, c2, c3⟩ := H9.out.c
           go_simp
           obtain ⟨w_8_59, hwn⟩ : ∃ z, (((w_5_58.setCell ⟨w_7_46.heap.size, 0, none⟩ (.int .i64 las)).setCell ⟨w_7_46.heap.size, 1, none⟩ (.int .i64 lan)).setCell ⟨w_7_46.heap.size, 2, none⟩ (.string lax)).setCell ⟨w_7_46.heap.size, 3, none⟩ (.int .i64 lat) = z := ⟨_, rfl⟩
           have H9n := Lib.hid (show Four w_8_59 (w_7_46.heap.size) (.int .i64 las) (.int .i64 lan) (.string lax) (.int .i64 lat) 29 from by rw [← hwn]; exact four_set H9.out _ _ _ _)
           have H10n := Lib.hid (show Four w_8_59 (w_2_2.heap.size) (.int .i64 0) (.int .i64 0) (.string ⟨#[]⟩) (.int .i64 0) 29 from by rw [← hwn]; exact four_far H10.out (by have := hq.out; omega) _ _ _ _)
           have HXn := Lib.hid (And.intro (show Four w_8_59 p (.int .u8 rk) (.int .i64 rn) (.string rx) (.int .i64 rt) 23 from by rw [← hwn]; exact four_far HX.out.1 (by have := hl9.out; omega) _ _ _ _) (show Four w_8_59 (p + 1) (.int .u8 sk) (.int .i64 sn) (.string sx) (.int .i64 st) 23 from by rw [← hwn]; exact four_far HX.out.2 (by have := hl9.out; omega) _ _ _ _))
           have KWn := Lib.hid (show Below W.heap.size W w_8_59 from by rw [← hwn]; exact below_set KW.out (by have := HP.out; have := hl9.out; omega) _ _ _ _)
           clear H9 H10 HX KW
           have H9 := H9n
           have H10 := H10n
           have HX := HXn
           have KW := KWn
           clear H9n H10n HXn KWn
           try rw [hwn]
           refine hK.out _ _ HX.out (fun hHeld => ?_)
           clear hK K hwn f0 f1 f2 f3 c0 c1 c2 c3
           try simp only [Act.put, List.setIfInBounds_toArray, List.set_cons_zero, List.set_cons_succ, List.getElem_toArray, List.getElem_cons_zero, List.getElem_cons_succ]
           refine anyL_ready (rs := [9]) (by kernel_rfl) (by simp) ?_
           refine (AllL.last rfl (by kernel_rfl) (fun K hK => ?_) AllL.nil)
           ·
            have f0 := H10.out.f 0
            have f1 := H10.out.f 1
            have f2 := H10.out.f 2
            have f3 := H10.out.f 3
            obtain ⟨c0, c1, c2, c3⟩ := H10.out.c
            go_simp
            obtain ⟨w_9_60, hwn⟩ : ∃ z, (((w_8_59.setCell ⟨w_2_2.heap.size, 0, none⟩ (.int .i64 lbs)).setCell ⟨w_2_2.heap.size, 1, none⟩ (.int .i64 lbn)).setCell ⟨w_2_2.heap.size, 2, none⟩ (.string lbx)).setCell ⟨w_2_2.heap.size, 3, none⟩ (.int .i64 lbt) = z := ⟨_, rfl⟩
            have H10n := Lib.hid (show Four w_9_60 (w_2_2.heap.size) (.int .i64 lbs) (.int .i64 lbn) (.string lbx) (.int .i64 lbt) 29 from by rw [← hwn]; exact four_set H10.out _ _ _ _)
            have H9n := Lib.hid (show Four w_9_60 (w_7_46.heap.size) (.int .i64 las) (.int .i64 lan) (.string lax) (.int .i64 lat) 29 from by rw [← hwn]; exact four_far H9.out (by have := hq.out; omega) _ _ _ _)
            have HXn := Lib.hid (And.intro (show Four w_9_60 p (.int .u8 rk) (.int .i64 rn) (.string rx) (.int .i64 rt) 23 from by rw [← hwn]; exact four_far HX.out.1 (by have := hl10.out; omega) _ _ _ _) (show Four w_9_60 (p + 1) (.int .u8 sk) (.int .i64 sn) (.string sx) (.int .i64 st) 23 from by rw [← hwn]; exact four_far HX.out.2 (by have := hl10.out; omega) _ _ _ _))
            have KWn := Lib.hid (show Below W.heap.size W w_9_60 from by rw [← hwn]; exact below_set KW.out (by have := HP.out; have := hl10.out; omega) _ _ _ _)
            clear H9 H10 HX KW
            have H9 := H9n
            have H10 := H10n
            have HX := HXn
            have KW := KWn
            clear H9n H10n HXn KWn
            try rw [hwn]
            refine hK.out _ _ ?_
            clear hK K hwn f0 f1 f2 f3 c0 c1 c2 c3
            try simp only [Act.put, List.setIfInBounds_toArray, List.set_cons_zero, List.set_cons_succ, List.getElem_toArray, List.getElem_cons_zero, List.getElem_cons_succ]
            refine anyL_done (by kernel_rfl) ?_ _
            go_wp2_with fail
            go_meet
            exact ⟨_, _, rfl, rfl, H9.out, H10.out, HX.out.1, HX.out.2, KW.out⟩
     ·
      go_simp
      obtain ⟨w_6_61, hwn⟩ : ∃ z, w_1_1.alloc (.cells #[.int .i64 0, .int .i64 0, .string ⟨#[]⟩, .int .i64 0] 29) = z := ⟨_, rfl⟩
      have k9 : Bl w_1_1 w_6_61 := by rw [← hwn]; exact (Below.refl _ _).alloc (Nat.le_refl _) _
      have H9 := Lib.hid (show Four w_6_61 w_1_1.heap.size (.int .i64 0) (.int .i64 0) (.string ⟨#[]⟩) (.int .i64 0) 29 from by rw [← hwn]; exact Four.new w_1_1 _ _ _ _ _)
      have hl9 := Lib.hid (lt_at HX.out.2)
      
      have HXn := Lib.hid (And.intro (HX.out.1.on k9) (HX.out.2.on k9))
      have KWn := Lib.hid (KW.out.trans ((k9 : Bl w_1_1 w_6_61).mono KW.out.size))
      clear HX KW
      have HX := HXn
      have KW := KWn
      clear HXn KWn
      try rw [hwn]
      refine hK.out _ _ HX.out (fun hHeld => ?_)
      clear hK K k9 hwn
      try simp only [Act.put, List.setIfInBounds_toArray, List.set_cons_zero, List.set_cons_succ, List.getElem_toArray, List.getElem_cons_zero, List.getElem_cons_succ]
      refine anyL_ready (rs := [2, 7]) (by kernel_rfl) (by simp) ?_
      refine (AllL.cons rfl (fun K hK => ?_) (AllL.cons rfl (fun K hK => ?_) AllL.nil))
      ·
       go_simp
       refine (HLA _).mono ?_
       rintro e w_2_62 ⟨rfl, k9⟩
       have HXn := Lib.hid (And.intro (HX.out.1.on k9) (HX.out.2.on k9))
       have KWn := Lib.hid (KW.out.trans ((k9 : Bl w_6_61 w_2_62).mono KW.out.size))
       clear HX KW
       have HX := HXn
       have KW := KWn
       clear HXn KWn
       have H9n := Lib.hid (H9.out.on k9)
       clear H9
       have H9 := H9n
       clear H9n
       go_wp2_with fail
       refine hK.out _ _ HX.out (fun hHeld => ?_)
       clear hK K k9
       try simp only [Act.put, List.setIfInBounds_toArray, List.set_cons_zero, List.set_cons_succ, List.getElem_toArray, List.getElem_cons_zero, List.getElem_cons_succ]
       refine anyL_ready (rs := [4, 7]) (by kernel_rfl) (by simp) ?_
       refine (AllL.cons rfl (fun K hK => ?_) (AllL.cons rfl (fun K hK => ?_) AllL.nil))
       ·
        go_simp
        refine (HB _).mono ?_
        rintro e w_4_63 ⟨rfl, k9⟩
        have HXn := Lib.hid (And.intro (HX.out.1.on k9) (HX.out.2.on k9))
        have KWn := Lib.hid (KW.out.trans ((k9 : Bl w_2_62 w_4_63).mono KW.out.size))
        clear HX KW
        have HX := HXn
        have KW := KWn
        clear HXn KWn
        have H9n := Lib.hid (H9.out.on k9)
        clear H9
        have H9 := H9n
        clear H9n
        go_wp2_with fail
        refine hK.out _ _ HX.out (fun hHeld => ?_)
        clear hK K k9
        try simp only [Act.put, List.setIfInBounds_toArray, List.set_cons_zero, List.set_cons_succ, List.getElem_toArray, List.getElem_cons_zero, List.getElem_cons_succ]
        refine anyL_ready (rs := [5, 7]) (by kernel_rfl) (by simp) ?_
        refine (AllL.cons rfl (fun K hK => ?_) (AllL.cons rfl (fun K hK => ?_) AllL.nil))
        ·
         go_simp
         refine (HLB _).mono ?_
         rintro e w_5_64 ⟨rfl, k9⟩
         have HXn := Lib.hid (And.intro (HX.out.1.on k9) (HX.out.2.on k9))
         have KWn := Lib.hid (KW.out.trans ((k9 : Bl w_4_63 w_5_64).mono KW.out.size))
         clear HX KW
         have HX := HXn
         have KW := KWn
         clear HXn KWn
         have H9n := Lib.hid (H9.out.on k9)
         clear H9
         have H9 := H9n
         clear H9n
         go_wp2_with fail
         refine hK.out _ _ HX.out (fun hHeld => ?_)
         clear hK K k9
         try simp only [Act.put, List.setIfInBounds_toArray, List.set_cons_zero, List.set_cons_succ, List.getElem_toArray, List.getElem_cons_zero, List.getElem_cons_succ]
         refine anyL_ready (rs := [7]) (by kernel_rfl) (by simp) ?_
         refine (AllL.cons rfl (fun K hK => ?_) AllL.nil)
         ·
          go_simp
          obtain ⟨w_7_65, hwn⟩ : ∃ z, w_5_64.alloc (.cells #[.int .i64 0, .int .i64 0, .string ⟨#[]⟩, .int .i64 0] 29) = z := ⟨_, rfl⟩
          have k9 : Bl w_5_64 w_7_65 := by rw [← hwn]; exact (Below.refl _ _).alloc (Nat.le_refl _) _
          have H10 := Lib.hid (show Four w_7_65 w_5_64.heap.size (.int .i64 0) (.int .i64 0) (.string ⟨#[]⟩) (.int .i64 0) 29 from by rw [← hwn]; exact Four.new w_5_64 _ _ _ _ _)
          have hl10 := Lib.hid (lt_at HX.out.2)
          have hq := Lib.hid (lt_at H9.out)
          have HXn := Lib.hid (And.intro (HX.out.1.on k9) (HX.out.2.on k9))
          have KWn := Lib.hid (KW.out.trans ((k9 : Bl w_5_64 w_7_65).mono KW.out.size))
          clear HX KW
          have HX := HXn
          have KW := KWn
          clear HXn KWn
          have H9n := Lib.hid (H9.out.on k9)
          clear H9
          have H9 := H9n
          clear H9n
          try rw [hwn]
          refine hK.out _ _ HX.out (fun hHeld => ?_)
          clear hK K k9 hwn
          try simp only [Act.put, List.setIfInBounds_toArray, List.set_cons_zero, List.set_cons_succ, List.getElem_toArray, List.getElem_cons_zero, List.getElem_cons_succ]
          refine anyL_ready (rs := [8]) (by kernel_rfl) (by simp) ?_
          refine (AllL.cons rfl (fun K hK => ?_) AllL.nil)
          ·
           have f0 := H9.out.f 0
           have f1 := H9.out.f 1
           have f2 := H9.out.f 2
           have f3 := H9.out.f 3
           obtain ⟨c0, c1, c2, c3⟩ := H9.out.c
           go_simp
           obtain ⟨w_8_66, hwn⟩ : ∃ z, (((w_7_65.setCell ⟨w_1_1.heap.size, 0, none⟩ (.int .i64 las)).setCell ⟨w_1_1.heap.size, 1, none⟩ (.int .i64 lan)).setCell ⟨w_1_1.heap.size, 2, none⟩ (.string lax)).setCell ⟨w_1_1.heap.size, 3, none⟩ (.int .i64 lat) = z := ⟨_, rfl⟩
           have H9n := Lib.hid (show Four w_8_66 (w_1_1.heap.size) (.int .i64 las) (.int .i64 lan) (.string lax) (.int .i64 lat) 29 from by rw [← hwn]; exact four_set H9.out _ _ _ _)
           have H10n := Lib.hid (show Four w_8_66 (w_5_64.heap.size) (.int .i64 0) (.int .i64 0) (.string ⟨#[]⟩) (.int .i64 0) 29 from by rw [← hwn]; exact four_far H10.out (by have := hq.out; omega) _ _ _ _)
           have HXn := Lib.hid (And.intro (show Four w_8_66 p (.int .u8 rk) (.int .i64 rn) (.string rx) (.int .i64 rt) 23 from by rw [← hwn]; exact four_far HX.out.1 (by have := hl9.out; omega) _ _ _ _) (show Four w_8_66 (p + 1) (.int .u8 sk) (.int .i64 sn) (.string sx) (.int .i64 st) 23 from by rw [← hwn]; exact four_far HX.out.2 (by have := hl9.out; omega) _ _ _ _))
           have KWn := Lib.hid (show Below W.heap.size W w_8_66 from by rw [← hwn]; exact below_set KW.out (by have := HP.out; have := hl9.out; omega) _ _ _ _)
           clear H9 H10 HX KW
           have H9 := H9n
           have H10 := H10n
           have HX := HXn
           have KW := KWn
           clear H9n H10n HXn KWn
           try rw [hwn]
           refine hK.out _ _ HX.out (fun hHeld => ?_)
           clear hK K hwn f0 f1 f2 f3 c0 c1 c2 c3
           try simp only [Act.put, List.setIfInBounds_toArray, List.set_cons_zero, List.set_cons_succ, List.getElem_toArray, List.getElem_cons_zero, List.getElem_cons_succ]
           refine anyL_ready (rs := [9]) (by kernel_rfl) (by simp) ?_
           refine (AllL.last rfl (by kernel_rfl) (fun K hK => ?_) AllL.nil)
           ·
            have f0 := H10.out.f 0
            have f1 := H10.out.f 1
            have f2 := H10.out.f 2
            have f3 := H10.out.f 3
            obtain ⟨c0, c1, c2, c3⟩ := H10.out.c
            go_simp
            obtain ⟨w_9_67, hwn⟩ : ∃ z, (((w_8_66.setCell ⟨w_5_64.heap.size, 0, none⟩ (.int .i64 lbs)).setCell ⟨w_5_64.heap.size, 1, none⟩ (.int .i64 lbn)).setCell ⟨w_5_64.heap.size, 2, none⟩ (.string lbx)).setCell ⟨w_5_64.heap.size, 3, none⟩ (.int .i64 lbt) = z := ⟨_, rfl⟩
            have H10n := Lib.hid (show Four w_9_67 (w_5_64.heap.size) (.int .i64 lbs) (.int .i64 lbn) (.string lbx) (.int .i64 lbt) 29 from by rw [← hwn]; exact four_set H10.out _ _ _ _)
            have H9n := Lib.hid (show Four w_9_67 (w_1_1.heap.size) (.int .i64 las) (.int .i64 lan) (.string lax) (.int .i64 lat) 29 from by rw [← hwn]; exact four_far H9.out (by have := hq.out; omega) _ _ _ _)
            have HXn := Lib.hid (And.intro (show Four w_9_67 p (.int .u8 rk) (.int .i64 rn) (.string rx) (.int .i64 rt) 23 from by rw [← hwn]; exact four_far HX.out.1 (by have := hl10.out; omega) _ _ _ _) (show Four w_9_67 (p + 1) (.int .u8 sk) (.int .i64 sn) (.string sx) (.int .i64 st) 23 from by rw [← hwn]; exact four_far HX.out.2 (by have := hl10.out; omega) _ _ _ _))
            have KWn := Lib.hid (show Below W.heap.size W w_9_67 from by rw [← hwn]; exact below_set KW.out (by have := HP.out; have := hl10.out; omega) _ _ _ _)
            clear H9 H10 HX KW
            have H9 := H9n
            have H10 := H10n
            have HX := HXn
            have KW := KWn
            clear H9n H10n HXn KWn
            try rw [hwn]
            refine hK.out _ _ ?_
            clear hK K hwn f0 f1 f2 f3 c0 c1 c2 c3
            try simp only [Act.put, List.setIfInBounds_toArray, List.set_cons_zero, List.set_cons_succ, List.getElem_toArray, List.getElem_cons_zero, List.getElem_cons_succ]
            refine anyL_done (by kernel_rfl) ?_ _
            go_wp2_with fail
            go_meet
            exact ⟨_, _, rfl, rfl, H9.out, H10.out, HX.out.1, HX.out.2, KW.out⟩
        ·
         go_simp
         obtain ⟨w_7_68, hwn⟩ : ∃ z, w_4_63.alloc (.cells #[.int .i64 0, .int .i64 0, .string ⟨#[]⟩, .int .i64 0] 29) = z := ⟨_, rfl⟩
         have k9 : Bl w_4_63 w_7_68 := by rw [← hwn]; exact (Below.refl _ _).alloc (Nat.le_refl _) _
         have H10 := Lib.hid (show Four w_7_68 w_4_63.heap.size (.int .i64 0) (.int .i64 0) (.string ⟨#[]⟩) (.int .i64 0) 29 from by rw [← hwn]; exact Four.new w_4_63 _ _ _ _ _)
         have hl10 := Lib.hid (lt_at HX.out.2)
         have hq := Lib.hid (lt_at H9.out)
         have HXn := Lib.hid (And.intro (HX.out.1.on k9) (HX.out.2.on k9))
         have KWn := Lib.hid (KW.out.trans ((k9 : Bl w_4_63 w_7_68).mono KW.out.size))
         clear HX KW
         have HX := HXn
         have KW := KWn
         clear HXn KWn
         have H9n := Lib.hid (H9.out.on k9)
         clear H9
         have H9 := H9n
         clear H9n
         try rw [hwn]
         refine hK.out _ _ HX.out (fun hHeld => ?_)
         clear hK K k9 hwn
         try simp only [Act.put, List.setIfInBounds_toArray, List.set_cons_zero, List.set_cons_succ, List.getElem_toArray, List.getElem_cons_zero, List.getElem_cons_succ]
         refine anyL_ready (rs := [5]) (by kernel_rfl) (by simp) ?_
         refine (AllL.cons rfl (fun K hK => ?_) AllL.nil)
         ·
          go_simp
          refine (HLB _).mono ?_
          rintro e w_5_69 ⟨rfl, k9⟩
          have HXn := Lib.hid (And.intro (HX.out.1.on k9) (HX.out.2.on k9))
          have KWn := Lib.hid (KW.out.trans ((k9 : Bl w_7_68 w_5_69).mono KW.out.size))
          clear HX KW
          have HX := HXn
          have KW := KWn
          clear HXn KWn
          have H9n := Lib.hid (H9.out.on k9)
          clear H9
          have H9 := H9n
          clear H9n
          have H10n := Lib.hid (H10.out.on k9)
          clear H10
          have H10 := H10n
          clear H10n
          go_wp2_with fail
          refine hK.out _ _ HX.out (fun hHeld => ?_)
          clear hK K k9
          try simp only [Act.put, List.setIfInBounds_toArray, List.set_cons_zero, List.set_cons_succ, List.getElem_toArray, List.getElem_cons_zero, List.getElem_cons_succ]
          refine anyL_ready (rs := [8]) (by kernel_rfl) (by simp) ?_
          refine (AllL.cons rfl (fun K hK => ?_) AllL.nil)
          ·
           have f0 := H9.out.f 0
           have f1 := H9.out.f 1
           have f2 := H9.out.f 2
           have f3 := H9.out.f 3
           obtain ⟨c0, c1, c2, c3⟩ := H9.out.c
           go_simp
           obtain ⟨w_8_70, hwn⟩ : ∃ z, (((w_5_69.setCell ⟨w_1_1.heap.size, 0, none⟩ (.int .i64 las)).setCell ⟨w_1_1.heap.size, 1, none⟩ (.int .i64 lan)).setCell ⟨w_1_1.heap.size, 2, none⟩ (.string lax)).setCell ⟨w_1_1.heap.size, 3, none⟩ (.int .i64 lat) = z := ⟨_, rfl⟩
           have H9n := Lib.hid (show Four w_8_70 (w_1_1.heap.size) (.int .i64 las) (.int .i64 lan) (.string lax) (.int .i64 lat) 29 from by rw [← hwn]; exact four_set H9.out _ _ _ _)
           have H10n := Lib.hid (show Four w_8_70 (w_4_63.heap.size) (.int .i64 0) (.int .i64 0) (.string ⟨#[]⟩) (.int .i64 0) 29 from by rw [← hwn]; exact four_far H10.out (by have := hq.out; omega) _ _ _ _)
           have HXn := Lib.hid (And.intro (show Four w_8_70 p (.int .u8 rk) (.int .i64 rn) (.string rx) (.int .i64 rt) 23 from by rw [← hwn]; exact four_far HX.out.1 (by have := hl9.out; omega) _ _ _ _) (show Four w_8_70 (p + 1) (.int .u8 sk) (.int .i64 sn) (.string sx) (.int .i64 st) 23 from by rw [← hwn]; exact four_far HX.out.2 (by have := hl9.out; omega) _ _ _ _))
           have KWn := Lib.hid (show Below W.heap.size W w_8_70 from by rw [← hwn]; exact below_set KW.out (by have := HP.out; have := hl9.out; omega) _ _ _ _)
           clear H9 H10 HX KW
           have H9 := H9n
           have H10 := H10n
           have HX := HXn
           have KW := KWn
           clear H9n H10n HXn KWn
           try rw [hwn]
           refine hK.out _ _ HX.out (fun hHeld => ?_)
           clear hK K hwn f0 f1 f2 f3 c0 c1 c2 c3
           try simp only [Act.put, List.setIfInBounds_toArray, List.set_cons_zero, List.set_cons_succ, List.getElem_toArray, List.getElem_cons_zero, List.getElem_cons_succ]
           refine anyL_ready (rs := [9]) (by kernel_rfl) (by simp) ?_
           refine (AllL.last rfl (by kernel_rfl) (fun K hK => ?_) AllL.nil)
           ·
            have f0 := H10.out.f 0
            have f1 := H10.out.f 1
            have f2 := H10.out.f 2
            have f3 := H10.out.f 3
            obtain ⟨c0, c1, c2, c3⟩ := H10.out.c
            go_simp
            obtain ⟨w_9_71, hwn⟩ : ∃ z, (((w_8_70.setCell ⟨w_4_63.heap.size, 0, none⟩ (.int .i64 lbs)).setCell ⟨w_4_63.heap.size, 1, none⟩ (.int .i64 lbn)).setCell ⟨w_4_63.heap.size, 2, none⟩ (.string lbx)).setCell ⟨w_4_63.heap.size, 3, none⟩ (.int .i64 lbt) = z := ⟨_, rfl⟩
            have H10n := Lib.hid (show Four w_9_71 (w_4_63.heap.size) (.int .i64 lbs) (.int .i64 lbn) (.string lbx) (.int .i64 lbt) 29 from by rw [← hwn]; exact four_set H10.out _ _ _ _)
            have H9n := Lib.hid (show Four w_9_71 (w_1_1.heap.size) (.int .i64 las) (.int .i64 lan) (.string lax) (.int .i64 lat) 29 from by rw [← hwn]; exact four_far H9.out (by have := hq.out; omega) _ _ _ _)
            have HXn := Lib.hid (And.intro (show Four w_9_71 p (.int .u8 rk) (.int .i64 rn) (.string rx) (.int .i64 rt) 23 from by rw [← hwn]; exact four_far HX.out.1 (by have := hl10.out; omega) _ _ _ _) (show Four w_9_71 (p + 1) (.int .u8 sk) (.int .i64 sn) (.string sx) (.int .i64 st) 23 from by rw [← hwn]; exact four_far HX.out.2 (by have := hl10.out; omega) _ _ _ _))
            have KWn := Lib.hid (show Below W.heap.size W w_9_71 from by rw [← hwn]; exact below_set KW.out (by have := HP.out; have := hl10.out; omega) _ _ _ _)
            clear H9 H10 HX KW
            have H9 := H9n
            have H10 := H10n
            have HX := HXn
            have KW := KWn
            clear H9n H10n HXn KWn
            try rw [hwn]
            refine hK.out _ _ ?_
            clear hK K hwn f0 f1 f2 f3 c0 c1 c2 c3
            try simp only [Act.put, List.setIfInBounds_toArray, List.set_cons_zero, List.set_cons_succ, List.getElem_toArray, List.getElem_cons_zero, List.getElem_cons_succ]
            refine anyL_done (by kernel_rfl) ?_ _
            go_wp2_with fail
            go_meet
            exact ⟨_, _, rfl, rfl, H9.out, H10.out, HX.out.1, HX.out.2, KW.out⟩
       ·
        go_simp
        obtain ⟨w_7_72, hwn⟩ : ∃ z, w_2_62.alloc (.cells #[.int .i64 0, .int .i64 0, .string ⟨#[]⟩, .int .i64 0] 29) = z := ⟨_, rfl⟩
        have k9 : Bl w_2_62 w_7_72 := by rw [← hwn]; exact (Below.refl _ _).alloc (Nat.le_refl _) _
        have H10 := Lib.hid (show Four w_7_72 w_2_62.heap.size (.int .i64 0) (.int .i64 0) (.string ⟨#[]⟩) (.int .i64 0) 29 from by rw [← hwn]; exact Four.new w_2_62 _ _ _ _ _)
        have hl10 := Lib.hid (lt_at HX.out.2)
        have hq := Lib.hid (lt_at H9.out)
        have HXn := Lib.hid (And.intro (HX.out.1.on k9) (HX.out.2.on k9))
        have KWn := Lib.hid (KW.out.trans ((k9 : Bl w_2_62 w_7_72).mono KW.out.size))
        clear HX KW
        have HX := HXn
        have KW := KWn
        clear HXn KWn
        have H9n := Lib.hid (H9.out.on k9)
        clear H9
        have H9 := H9n
        clear H9n
        try rw [hwn]
        refine hK.out _ _ HX.out (fun hHeld => ?_)
        clear hK K k9 hwn
        try simp only [Act.put, List.setIfInBounds_toArray, List.set_cons_zero, List.set_cons_succ, List.getElem_toArray, List.getElem_cons_zero, List.getElem_cons_succ]
        refine anyL_ready (rs := [4]) (by kernel_rfl) (by simp) ?_
        refine (AllL.cons rfl (fun K hK => ?_) AllL.nil)
        ·
         go_simp
         refine (HB _).mono ?_
         rintro e w_4_73 ⟨rfl, k9⟩
         have HXn := Lib.hid (And.intro (HX.out.1.on k9) (HX.out.2.on k9))
         have KWn := Lib.hid (KW.out.trans ((k9 : Bl w_7_72 w_4_73).mono KW.out.size))
         clear HX KW
         have HX := HXn
         have KW := KWn
         clear HXn KWn
         have H9n := Lib.hid (H9.out.on k9)
         clear H9
         have H9 := H9n
         clear H9n
         have H10n := Lib.hid (H10.out.on k9)
         clear H10
         have H10 := H10n
         clear H10n
         go_wp2_with fail
         refine hK.out _ _ HX.out (fun hHeld => ?_)
         clear hK K k9
         try simp only [Act.put, List.setIfInBounds_toArray, List.set_cons_zero, List.set_cons_succ, List.getElem_toArray, List.getElem_cons_zero, List.getElem_cons_succ]
         refine anyL_ready (rs := [5]) (by kernel_rfl) (by simp) ?_
         refine (AllL.cons rfl (fun K hK => ?_) AllL.nil)
         ·
          go_simp
          refine (HLB _).mono ?_
          rintro e w_5_74 ⟨rfl, k9⟩
          have HXn := Lib.hid (And.intro (HX.out.1.on k9) (HX.out.2.on k9))
          have KWn := Lib.hid (KW.out.trans ((k9 : Bl w_4_73 w_5_74).mono KW.out.size))
          clear HX KW
          have HX := HXn
          have KW := KWn
          clear HXn KWn
          have H9n := Lib.hid (H9.out.on k9)
          clear H9
          have H9 := H9n
          clear H9n
          have H10n := Lib.hid (H10.out.on k9)
          clear H10
          have H10 := H10n
          clear H10n
          go_wp2_with fail
          refine hK.out _ _ HX.out (fun hHeld => ?_)
          clear hK K k9
          try simp only [Act.put, List.setIfInBounds_toArray, List.set_cons_zero, List.set_cons_succ, List.getElem_toArray, List.getElem_cons_zero, List.getElem_cons_succ]
          refine anyL_ready (rs := [8]) (by kernel_rfl) (by simp) ?_
          refine (AllL.cons rfl (fun K hK => ?_) AllL.nil)
          ·
           have f0 := H9.out.f 0
           have f1 := H9.out.f 1
           have f2 := H9.out.f 2
           have f3 := H9.out.f 3
           obtain ⟨c0, c1, c2, c3⟩ := H9.out.c
           go_simp
           obtain ⟨w_8_75, hwn⟩ : ∃ z, (((w_5_74.setCell ⟨w_1_1.heap.size, 0, none⟩ (.int .i64 las)).setCell ⟨w_1_1.heap.size, 1, none⟩ (.int .i64 lan)).setCell ⟨w_1_1.heap.size, 2, none⟩ (.string lax)).setCell ⟨w_1_1.heap.size, 3, none⟩ (.int .i64 lat) = z := ⟨_, rfl⟩
           have H9n := Lib.hid (show Four w_8_75 (w_1_1.heap.size) (.int .i64 las) (.int .i64 lan) (.string lax) (.int .i64 lat) 29 from by rw [← hwn]; exact four_set H9.out _ _ _ _)
           have H10n := Lib.hid (show Four w_8_75 (w_2_62.heap.size) (.int .i64 0) (.int .i64 0) (.string ⟨#[]⟩) (.int .i64 0) 29 from by rw [← hwn]; exact four_far H10.out (by have := hq.out; omega) _ _ _ _)
           have HXn := Lib.hid (And.intro (show Four w_8_75 p (.int .u8 rk) (.int .i64 rn) (.string rx) (.int .i64 rt) 23 from by rw [← hwn]; exact four_far HX.out.1 (by have := hl9.out; omega) _ _ _ _) (show Four w_8_75 (p + 1) (.int .u8 sk) (.int .i64 sn) (.string sx) (.int .i64 st) 23 from by rw [← hwn]; exact four_far HX.out.2 (by have := hl9.out; omega) _ _ _ _))
           have KWn := Lib.hid (show Below W.heap.size W w_8_75 from by rw [← hwn]; exact below_set KW.out (by have := HP.out; have := hl9.out; omega) _ _ _ _)
           clear H9 H10 HX KW
           have H9 := H9n
           have H10 := H10n
           have HX := HXn
           have KW := KWn
           clear H9n H10n HXn KWn
           try rw [hwn]
           refine hK.out _ _ HX.out (fun hHeld => ?_)
           clear hK K hwn f0 f1 f2 f3 c0 c1 c2 c3
           try simp only [Act.put, List.setIfInBounds_toArray, List.set_cons_zero, List.set_cons_succ, List.getElem_toArray, List.getElem_cons_zero, List.getElem_cons_succ]
           refine anyL_ready (rs := [9]) (by kernel_rfl) (by simp) ?_
           refine (AllL.last rfl (by kernel_rfl) (fun K hK => ?_) AllL.nil)
           ·
            have f0 := H10.out.f 0
            have f1 := H10.out.f 1
            have f2 := H10.out.f 2
            have f3 := H10.out.f 3
            obtain ⟨c0, c1, c2, c3⟩ := H10.out.c
            go_simp
            obtain ⟨w_9_76, hwn⟩ : ∃ z, (((w_8_75.setCell ⟨w_2_62.heap.size, 0, none⟩ (.int .i64 lbs)).setCell ⟨w_2_62.heap.size, 1, none⟩ (.int .i64 lbn)).setCell ⟨w_2_62.heap.size, 2, none⟩ (.string lbx)).setCell ⟨w_2_62.heap.size, 3, none⟩ (.int .i64 lbt) = z := ⟨_, rfl⟩
            have H10n := Lib.hid (show Four w_9_76 (w_2_62.heap.size) (.int .i64 lbs) (.int .i64 lbn) (.string lbx) (.int .i64 lbt) 29 from by rw [← hwn]; exact four_set H10.out _ _ _ _)
            have H9n := Lib.hid (show Four w_9_76 (w_1_1.heap.size) (.int .i64 las) (.int .i64 lan) (.string lax) (.int .i64 lat) 29 from by rw [← hwn]; exact four_far H9.out (by have := hq.out; omega) _ _ _ _)
            have HXn := Lib.hid (And.intro (show Four w_9_76 p (.int .u8 rk) (.int .i64 rn) (.string rx) (.int .i64 rt) 23 from by rw [← hwn]; exact four_far HX.out.1 (by have := hl10.out; omega) _ _ _ _) (show Four w_9_76 (p + 1) (.int .u8 sk) (.int .i64 sn) (.string sx) (.int .i64 st) 23 from by rw [← hwn]; exact four_far HX.out.2 (by have := hl10.out; omega) _ _ _ _))
            have KWn := Lib.hid (show Below W.heap.size W w_9_76 from by rw [← hwn]; exact below_set KW.out (by have := HP.out; have := hl10.out; omega) _ _ _ _)
            clear H9 H10 HX KW
            have H9 := H9n
            have H10 := H10n
            have HX := HXn
            have KW := KWn
            clear H9n H10n HXn KWn
            try rw [hwn]
            refine hK.out _ _ ?_
            clear hK K hwn f0 f1 f2 f3 c0 c1 c2 c3
            try simp only [Act.put, List.setIfInBounds_toArray, List.set_cons_zero, List.set_cons_succ, List.getElem_toArray, List.getElem_cons_zero, List.getElem_cons_succ]
            refine anyL_done (by kernel_rfl) ?_ _
            go_wp2_with fail
            go_meet
            exact ⟨_, _, rfl, rfl, H9.out, H10.out, HX.out.1, HX.out.2, KW.out⟩
      ·
       go_simp
       obtain ⟨w_7_77, hwn⟩ : ∃ z, w_6_61.alloc (.cells #[.int .i64 0, .int .i64 0, .string ⟨#[]⟩, .int .i64 0] 29) = z := ⟨_, rfl⟩
       have k9 : Bl w_6_61 w_7_77 := by rw [← hwn]; exact (Below.refl _ _).alloc (Nat.le_refl _) _
       have H10 := Lib.hid (show Four w_7_77 w_6_61.heap.size (.int .i64 0) (.int .i64 0) (.string ⟨#[]⟩) (.int .i64 0) 29 from by rw [← hwn]; exact Four.new w_6_61 _ _ _ _ _)
       have hl10 := Lib.hid (lt_at HX.out.2)
       have hq := Lib.hid (lt_at H9.out)
       have HXn := Lib.hid (And.intro (HX.out.1.on k9) (HX.out.2.on k9))
       have KWn := Lib.hid (KW.out.trans ((k9 : Bl w_6_61 w_7_77).mono KW.out.size))
       clear HX KW
       have HX := HXn
       have KW := KWn
       clear HXn KWn
       have H9n := Lib.hid (H9.out.on k9)
       clear H9
       have H9 := H9n
       clear H9n
       try rw [hwn]
       refine hK.out _ _ HX.out (fun hHeld => ?_)
       clear hK K k9 hwn
       try simp only [Act.put, List.setIfInBounds_toArray, List.set_cons_zero, List.set_cons_succ, List.getElem_toArray, List.getElem_cons_zero, List.getElem_cons_succ]
       refine anyL_ready (rs := [2]) (by kernel_rfl) (by simp) ?_
       refine (AllL.cons rfl (fun K hK => ?_) AllL.nil)
       ·
        go_simp
        refine (HLA _).mono ?_
        rintro e w_2_78 ⟨rfl, k9⟩
        have HXn := Lib.hid (And.intro (HX.out.1.on k9) (HX.out.2.on k9))
        have KWn := Lib.hid (KW.out.trans ((k9 : Bl w_7_77 w_2_78).mono KW.out.size))
        clear HX KW
        have HX := HXn
        have KW := KWn
        clear HXn KWn
        have H9n := Lib.hid (H9.out.on k9)
        clear H9
        have H9 := H9n
        clear H9n
        have H10n := Lib.hid (H10.out.on k9)
        clear H10
        have H10 := H10n
        clear H10n
        go_wp2_with fail
        refine hK.out _ _ HX.out (fun hHeld => ?_)
        clear hK K k9
        try simp only [Act.put, List.setIfInBounds_toArray, List.set_cons_zero, List.set_cons_succ, List.getElem_toArray, List.getElem_cons_zero, List.getElem_cons_succ]
        refine anyL_ready (rs := [4]) (by kernel_rfl) (by simp) ?_
        refine (AllL.cons rfl (fun K hK => ?_) AllL.nil)
        ·
         go_simp
         refine (HB _).mono ?_
         rintro e w_4_79 ⟨rfl, k9⟩
         have HXn := Lib.hid (And.intro (HX.out.1.on k9) (HX.out.2.on k9))
         have KWn := Lib.hid (KW.out.trans ((k9 : Bl w_2_78 w_4_79).mono KW.out.size))
         clear HX KW
         have HX := HXn
         have KW := KWn
         clear HXn KWn
         have H9n := Lib.hid (H9.out.on k9)
         clear H9
         have H9 := H9n
         clear H9n
         have H10n := Lib.hid (H10.out.on k9)
         clear H10
         have H10 := H10n
         clear H10n
         go_wp2_with fail
         refine hK.out _ _ HX.out (fun hHeld => ?_)
         clear hK K k9
         try simp only [Act.put, List.setIfInBounds_toArray, List.set_cons_zero, List.set_cons_succ, List.getElem_toArray, List.getElem_cons_zero, List.getElem_cons_succ]
         refine anyL_ready (rs := [5]) (by kernel_rfl) (by simp) ?_
         refine (AllL.cons rfl (fun K hK => ?_) AllL.nil)
         ·
          go_simp
          refine (HLB _).mono ?_
          rintro e w_5_80 ⟨rfl, k9⟩
          have HXn := Lib.hid (And.intro (HX.out.1.on k9) (HX.out.2.on k9))
          have KWn := Lib.hid (KW.out.trans ((k9 : Bl w_4_79 w_5_80).mono KW.out.size))
          clear HX KW
          have HX := HXn
          have KW := KWn
          clear HXn KWn
          have H9n := Lib.hid (H9.out.on k9)
          clear H9
          have H9 := H9n
          clear H9n
          have H10n := Lib.hid (H10.out.on k9)
          clear H10
          have H10 := H10n
          clear H10n
          go_wp2_with fail
          refine hK.out _ _ HX.out (fun hHeld => ?_)
          clear hK K k9
          try simp only [Act.put, List.setIfInBounds_toArray, List.set_cons_zero, List.set_cons_succ, List.getElem_toArray, List.getElem_cons_zero, List.getElem_cons_succ]
          refine anyL_ready (rs := [8]) (by kernel_rfl) (by simp) ?_
          refine (AllL.cons rfl (fun K hK => ?_) AllL.nil)
          ·
           have f0 := H9.out.f 0
           have f1 := H9.out.f 1
           have f2 := H9.out.f 2
           have f3 := H9.out.f 3
           obtain ⟨c0, c1, c2, c3⟩ := H9.out.c
           go_simp
           obtain ⟨w_8_81, hwn⟩ : ∃ z, (((w_5_80.setCell ⟨w_1_1.heap.size, 0, none⟩ (.int .i64 las)).setCell ⟨w_1_1.heap.size, 1, none⟩ (.int .i64 lan)).setCell ⟨w_1_1.heap.size, 2, none⟩ (.string lax)).setCell ⟨w_1_1.heap.size, 3, none⟩ (.int .i64 lat) = z := ⟨_, rfl⟩
           have H9n := Lib.hid (show Four w_8_81 (w_1_1.heap.size) (.int .i64 las) (.int .i64 lan) (.string lax) (.int .i64 lat) 29 from by rw [← hwn]; exact four_set H9.out _ _ _ _)
           have H10n := Lib.hid (show Four w_8_81 (w_6_61.heap.size) (.int .i64 0) (.int .i64 0) (.string ⟨#[]⟩) (.int .i64 0) 29 from by rw [← hwn]; exact four_far H10.out (by have := hq.out; omega) _ _ _ _)
           have HXn := Lib.hid (And.intro (show Four w_8_81 p (.int .u8 rk) (.int .i64 rn) (.string rx) (.int .i64 rt) 23 from by rw [← hwn]; exact four_far HX.out.1 (by have := hl9.out; omega) _ _ _ _) (show Four w_8_81 (p + 1) (.int .u8 sk) (.int .i64 sn) (.string sx) (.int .i64 st) 23 from by rw [← hwn]; exact four_far HX.out.2 (by have := hl9.out; omega) _ _ _ _))
           have KWn := Lib.hid (show Below W.heap.size W w_8_81 from by rw [← hwn]; exact below_set KW.out (by have := HP.out; have := hl9.out; omega) _ _ _ _)
           clear H9 H10 HX KW
           have H9 := H9n
           have H10 := H10n
           have HX := HXn
           have KW := KWn
           clear H9n H10n HXn KWn
           try rw [hwn]
           refine hK.out _ _ HX.out (fun hHeld => ?_)
           clear hK K hwn f0 f1 f2 f3 c0 c1 c2 c3
           try simp only [Act.put, List.setIfInBounds_toArray, List.set_cons_zero, List.set_cons_succ, List.getElem_toArray, List.getElem_cons_zero, List.getElem_cons_succ]
           refine anyL_ready (rs := [9]) (by kernel_rfl) (by simp) ?_
           refine (AllL.last rfl (by kernel_rfl) (fun K hK => ?_) AllL.nil)
           ·
            have f0 := H10.out.f 0
            have f1 := H10.out.f 1
            have f2 := H10.out.f 2
            have f3 := H10.out.f 3
            obtain ⟨c0, c1, c2, c3⟩ := H10.out.c
            go_simp
            obtain ⟨w_9_82, hwn⟩ : ∃ z, (((w_8_81.setCell ⟨w_6_61.heap.size, 0, none⟩ (.int .i64 lbs)).setCell ⟨w_6_61.heap.size, 1, none⟩ (.int .i64 lbn)).setCell ⟨w_6_61.heap.size, 2, none⟩ (.string lbx)).setCell ⟨w_6_61.heap.size, 3, none⟩ (.int .i64 lbt) = z := ⟨_, rfl⟩
            have H10n := Lib.hid (show Four w_9_82 (w_6_61.heap.size) (.int .i64 lbs) (.int .i64 lbn) (.string lbx) (.int .i64 lbt) 29 from by rw [← hwn]; exact four_set H10.out _ _ _ _)
            have H9n := Lib.hid (show Four w_9_82 (w_1_1.heap.size) (.int .i64 las) (.int .i64 lan) (.string lax) (.int .i64 lat) 29 from by rw [← hwn]; exact four_far H9.out (by have := hq.out; omega) _ _ _ _)
            have HXn := Lib.hid (And.intro (show Four w_9_82 p (.int .u8 rk) (.int .i64 rn) (.string rx) (.int .i64 rt) 23 from by rw [← hwn]; exact four_far HX.out.1 (by have := hl10.out; omega) _ _ _ _) (show Four w_9_82 (p + 1) (.int .u8 sk) (.int .i64 sn) (.string sx) (.int .i64 st) 23 from by rw [← hwn]; exact four_far HX.out.2 (by have := hl10.out; omega) _ _ _ _))
            have KWn := Lib.hid (show Below W.heap.size W w_9_82 from by rw [← hwn]; exact below_set KW.out (by have := HP.out; have := hl10.out; omega) _ _ _ _)
            clear H9 H10 HX KW
            have H9 := H9n
            have H10 := H10n
            have HX := HXn
            have KW := KWn
            clear H9n H10n HXn KWn
            try rw [hwn]
            refine hK.out _ _ ?_
            clear hK K hwn f0 f1 f2 f3 c0 c1 c2 c3
            try simp only [Act.put, List.setIfInBounds_toArray, List.set_cons_zero, List.set_cons_succ, List.getElem_toArray, List.getElem_cons_zero, List.getElem_cons_succ]
            refine anyL_done (by kernel_rfl) ?_ _
            go_wp2_with fail
            go_meet
            exact ⟨_, _, rfl, rfl, H9.out, H10.out, HX.out.1, HX.out.2, KW.out⟩
     ·
      go_simp
      obtain ⟨w_7_83, hwn⟩ : ∃ z, w_1_1.alloc (.cells #[.int .i64 0, .int .i64 0, .string ⟨#[]⟩, .int .i64 0] 29) = z := ⟨_, rfl⟩
      have k9 : Bl w_1_1 w_7_83 := by rw [← hwn]; exact (Below.refl _ _).alloc (Nat.le_refl _) _
      have H10 := Lib.hid (show Four w_7_83 w_1_1.heap.size (.int .i64 0) (.int .i64 0) (.string ⟨#[]⟩) (.int .i64 0) 29 from by rw [← hwn]; exact Four.new w_1_1 _ _ _ _ _)
      have hl10 := Lib.hid (lt_at HX.out.2)
      
      have HXn := Lib.hid (And.intro (HX.out.1.on k9) (HX.out.2.on k9))
      have KWn := Lib.hid (KW.out.trans ((k9 : Bl w_1_1 w_7_83).mono KW.out.size))
      clear HX KW
      have HX := HXn
      have KW := KWn
      clear HXn KWn
      try rw [hwn]
      refine hK.out _ _ HX.out (fun hHeld => ?_)
      clear hK K k9 hwn
      try simp only [Act.put, List.setIfInBounds_toArray, List.set_cons_zero, List.set_cons_succ, List.getElem_toArray, List.getElem_cons_zero, List.getElem_cons_succ]
      refine anyL_ready (rs := [2, 6]) (by kernel_rfl) (by simp) ?_
      refine (AllL.cons rfl (fun K hK => ?_) (AllL.cons rfl (fun K hK => ?_) AllL.nil))
      ·
       go_simp
       refine (HLA _).mono ?_
       rintro e w_2_84 ⟨rfl, k9⟩
       have HXn := Lib.hid (And.intro (HX.out.1.on k9) (HX.out.2.on k9))
       have KWn := Lib.hid (KW.out.trans ((k9 : Bl w_7_83 w_2_84).mono KW.out.size))
       clear HX KW
       have HX := HXn
       have KW := KWn
       clear HXn KWn
       have H10n := Lib.hid (H10.out.on k9)
       clear H10
       have H10 := H10n
       clear H10n
       go_wp2_with fail
       refine hK.out _ _ HX.out (fun hHeld => ?_)
       clear hK K k9
       try simp only [Act.put, List.setIfInBounds_toArray, List.set_cons_zero, List.set_cons_succ, List.getElem_toArray, List.getElem_cons_zero, List.getElem_cons_succ]
       refine anyL_ready (rs := [4, 6]) (by kernel_rfl) (by simp) ?_
       refine (AllL.cons rfl (fun K hK => ?_) (AllL.cons rfl (fun K hK => ?_) AllL.nil))
       ·
        go_simp
        refine (HB _).mono ?_
        rintro e w_4_85 ⟨rfl, k9⟩
        have HXn := Lib.hid (And.intro (HX.out.1.on k9) (HX.out.2.on k9))
        have KWn := Lib.hid (KW.out.trans ((k9 : Bl w_2_84 w_4_85).mono KW.out.size))
        clear HX KW
        have HX := HXn
        have KW := KWn
        clear HXn KWn
        have H10n := Lib.hid (H10.out.on k9)
        clear H10
        have H10 := H10n
        clear H10n
        go_wp2_with fail
        refine hK.out _ _ HX.out (fun hHeld => ?_)
        clear hK K k9
        try simp only [Act.put, List.setIfInBounds_toArray, List.set_cons_zero, List.set_cons_succ, List.getElem_toArray, List.getElem_cons_zero, List.getElem_cons_succ]
        refine anyL_ready (rs := [5, 6]) (by kernel_rfl) (by simp) ?_
        refine (AllL.cons rfl (fun K hK => ?_) (AllL.cons rfl (fun K hK => ?_) AllL.nil))
        ·
         go_simp
         refine (HLB _).mono ?_
         rintro e w_5_86 ⟨rfl, k9⟩
         have HXn := Lib.hid (And.intro (HX.out.1.on k9) (HX.out.2.on k9))
         have KWn := Lib.hid (KW.out.trans ((k9 : Bl w_4_85 w_5_86).mono KW.out.size))
         clear HX KW
         have HX := HXn
         have KW := KWn
         clear HXn KWn
         have H10n := Lib.hid (H10.out.on k9)
         clear H10
         have H10 := H10n
         clear H10n
         go_wp2_with fail
         refine hK.out _ _ HX.out (fun hHeld => ?_)
         clear hK K k9
         try simp only [Act.put, List.setIfInBounds_toArray, List.set_cons_zero, List.set_cons_succ, List.getElem_toArray, List.getElem_cons_zero, List.getElem_cons_succ]
         refine anyL_ready (rs := [6]) (by kernel_rfl) (by simp) ?_
         refine (AllL.cons rfl (fun K hK => ?_) AllL.nil)
         ·
          go_simp
          obtain ⟨w_6_87, hwn⟩ : ∃ z, w_5_86.alloc (.cells #[.int .i64 0, .int .i64 0, .string ⟨#[]⟩, .int .i64 0] 29) = z := ⟨_, rfl⟩
          have k9 : Bl w_5_86 w_6_87 := by rw [← hwn]; exact (Below.refl _ _).alloc (Nat.le_refl _) _
          have H9 := Lib.hid (show Four w_6_87 w_5_86.heap.size (.int .i64 0) (.int .i64 0) (.string ⟨#[]⟩) (.int .i64 0) 29 from by rw [← hwn]; exact Four.new w_5_86 _ _ _ _ _)
          have hl9 := Lib.hid (lt_at HX.out.2)
          have hq := Lib.hid (lt_at H10.out)
          have HXn := Lib.hid (And.intro (HX.out.1.on k9) (HX.out.2.on k9))
          have KWn := Lib.hid (KW.out.trans ((k9 : Bl w_5_86 w_6_87).mono KW.out.size))
          clear HX KW
          have HX := HXn
          have KW := KWn
          clear HXn KWn
          have H10n := Lib.hid (H10.out.on k9)
          clear H10
          have H10 := H10n
          clear H10n
          try rw [hwn]
          refine hK.out _ _ HX.out (fun hHeld => ?_)
          clear hK K k9 hwn
          try simp only [Act.put, List.setIfInBounds_toArray, List.set_cons_zero, List.set_cons_succ, List.getElem_toArray, List.getElem_cons_zero, List.getElem_cons_succ]
          refine anyL_ready (rs := [8]) (by kernel_rfl) (by simp) ?_
          refine (AllL.cons rfl (fun K hK => ?_) AllL.nil)
          ·
           have f0 := H9.out.f 0
           have f1 := H9.out.f 1
           have f2 := H9.out.f 2
           have f3 := H9.out.f 3
           obtain ⟨c0, c1, c2, c3⟩ := H9.out.c
           go_simp
           obtain ⟨w_8_88, hwn⟩ : ∃ z, (((w_6_87.setCell ⟨w_5_86.heap.size, 0, none⟩ (.int .i64 las)).setCell ⟨w_5_86.heap.size, 1, none⟩ (.int .i64 lan)).setCell ⟨w_5_86.heap.size, 2, none⟩ (.string lax)).setCell ⟨w_5_86.heap.size, 3, none⟩ (.int .i64 lat) = z := ⟨_, rfl⟩
           have H9n := Lib.hid (show Four w_8_88 (w_5_86.heap.size) (.int .i64 las) (.int .i64 lan) (.string lax) (.int .i64 lat) 29 from by rw [← hwn]; exact four_set H9.out _ _ _ _)
           have H10n := Lib.hid (show Four w_8_88 (w_1_1.heap.size) (.int .i64 0) (.int .i64 0) (.string ⟨#[]⟩) (.int .i64 0) 29 from by rw [← hwn]; exact four_far H10.out (by have := hq.out; omega) _ _ _ _)
           have HXn := Lib.hid (And.intro (show Four w_8_88 p (.int .u8 rk) (.int .i64 rn) (.string rx) (.int .i64 rt) 23 from by rw [← hwn]; exact four_far HX.out.1 (by have := hl9.out; omega) _ _ _ _) (show Four w_8_88 (p + 1) (.int .u8 sk) (.int .i64 sn) (.string sx) (.int .i64 st) 23 from by rw [← hwn]; exact four_far HX.out.2 (by have := hl9.out; omega) _ _ _ _))
           have KWn := Lib.hid (show Below W.heap.size W w_8_88 from by rw [← hwn]; exact below_set KW.out (by have := HP.out; have := hl9.out; omega) _ _ _ _)
           clear H9 H10 HX KW
           have H9 := H9n
           have H10 := H10n
           have HX := HXn
           have KW := KWn
           clear H9n H10n HXn KWn
           try rw [hwn]
           refine hK.out _ _ HX.out (fun hHeld => ?_)
           clear hK K hwn f0 f1 f2 f3 c0 c1 c2 c3
           try simp only [Act.put, List.setIfInBounds_toArray, List.set_cons_zero, List.set_cons_succ, List.getElem_toArray, List.getElem_cons_zero, List.getElem_cons_succ]
           refine anyL_ready (rs := [9]) (by kernel_rfl) (by simp) ?_
           refine (AllL.last rfl (by kernel_rfl) (fun K hK => ?_) AllL.nil)
           ·
            have f0 := H10.out.f 0
            have f1 := H10.out.f 1
            have f2 := H10.out.f 2
            have f3 := H10.out.f 3
            obtain ⟨c0, c1, c2, c3⟩ := H10.out.c
            go_simp
            obtain ⟨w_9_89, hwn⟩ : ∃ z, (((w_8_88.setCell ⟨w_1_1.heap.size, 0, none⟩ (.int .i64 lbs)).setCell ⟨w_1_1.heap.size, 1, none⟩ (.int .i64 lbn)).setCell ⟨w_1_1.heap.size, 2, none⟩ (.string lbx)).setCell ⟨w_1_1.heap.size, 3, none⟩ (.int .i64 lbt) = z := ⟨_, rfl⟩
            have H10n := Lib.hid (show Four w_9_89 (w_1_1.heap.size) (.int .i64 lbs) (.int .i64 lbn) (.string lbx) (.int .i64 lbt) 29 from by rw [← hwn]; exact four_set H10.out _ _ _ _)
            have H9n := Lib.hid (show Four w_9_89 (w_5_86.heap.size) (.int .i64 las) (.int .i64 lan) (.string lax) (.int .i64 lat) 29 from by rw [← hwn]; exact four_far H9.out (by have := hq.out; omega) _ _ _ _)
            have HXn := Lib.hid (And.intro (show Four w_9_89 p (.int .u8 rk) (.int .i64 rn) (.string rx) (.int .i64 rt) 23 from by rw [← hwn]; exact four_far HX.out.1 (by have := hl10.out; omega) _ _ _ _) (show Four w_9_89 (p + 1) (.int .u8 sk) (.int .i64 sn) (.string sx) (.int .i64 st) 23 from by rw [← hwn]; exact four_far HX.out.2 (by have := hl10.out; omega) _ _ _ _))
            have KWn := Lib.hid (show Below W.heap.size W w_9_89 from by rw [← hwn]; exact below_set KW.out (by have := HP.out; have := hl10.out; omega) _ _ _ _)
            clear H9 H10 HX KW
            have H9 := H9n
            have H10 := H10n
            have HX := HXn
            have KW := KWn
            clear H9n H10n HXn KWn
            try rw [hwn]
            refine hK.out _ _ ?_
            clear hK K hwn f0 f1 f2 f3 c0 c1 c2 c3
            try simp only [Act.put, List.setIfInBounds_toArray, List.set_cons_zero, List.set_cons_succ, List.getElem_toArray, List.getElem_cons_zero, List.getElem_cons_succ]
            refine anyL_done (by kernel_rfl) ?_ _
            go_wp2_with fail
            go_meet
            exact ⟨_, _, rfl, rfl, H9.out, H10.out, HX.out.1, HX.out.2, KW.out⟩
        ·
         go_simp
         obtain ⟨w_6_90, hwn⟩ : ∃ z, w_4_85.alloc (.cells #[.int .i64 0, .int .i64 0, .string ⟨#[]⟩, .int .i64 0] 29) = z := ⟨_, rfl⟩
         have k9 : Bl w_4_85 w_6_90 := by rw [← hwn]; exact (Below.refl _ _).alloc (Nat.le_refl _) _
         have H9 := Lib.hid (show Four w_6_90 w_4_85.heap.size (.int .i64 0) (.int .i64 0) (.string ⟨#[]⟩) (.int .i64 0) 29 from by rw [← hwn]; exact Four.new w_4_85 _ _ _ _ _)
         have hl9 := Lib.hid (lt_at HX.out.2)
         have hq := Lib.hid (lt_at H10.out)
         have HXn := Lib.hid (And.intro (HX.out.1.on k9) (HX.out.2.on k9))
         have KWn := Lib.hid (KW.out.trans ((k9 : Bl w_4_85 w_6_90).mono KW.out.size))
         clear HX KW
         have HX := HXn
         have KW := KWn
         clear HXn KWn
         have H10n := Lib.hid (H10.out.on k9)
         clear H10
         have H10 := H10n
         clear H10n
         try rw [hwn]
         refine hK.out _ _ HX.out (fun hHeld => ?_)
         clear hK K k9 hwn
         try simp only [Act.put, List.setIfInBounds_toArray, List.set_cons_zero, List.set_cons_succ, List.getElem_toArray, List.getElem_cons_zero, List.getElem_cons_succ]
         refine anyL_ready (rs := [5]) (by kernel_rfl) (by simp) ?_
         refine (AllL.cons rfl (fun K hK => ?_) AllL.nil)
         ·
          go_simp
          refine (HLB _).mono ?_
          rintro e w_5_91 ⟨rfl, k9⟩
          have HXn := Lib.hid (And.intro (HX.out.1.on k9) (HX.out.2.on k9))
          have KWn := Lib.hid (KW.out.trans ((k9 : Bl w_6_90 w_5_91).mono KW.out.size))
          clear HX KW
          have HX := HXn
          have KW := KWn
          clear HXn KWn
          have H10n := Lib.hid (H10.out.on k9)
          clear H10
          have H10 := H10n
          clear H10n
          have H9n := Lib.hid (H9.out.on k9)
          clear H9
          have H9 := H9n
          clear H9n
          go_wp2_with fail
          refine hK.out _ _ HX.out (fun hHeld => ?_)
          clear hK K k9
          try simp only [Act.put, List.setIfInBounds_toArray, List.set_cons_zero, List.set_cons_succ, List.getElem_toArray, List.getElem_cons_zero, List.getElem_cons_succ]
          refine anyL_ready (rs := [8]) (by kernel_rfl) (by simp) ?_
          refine (AllL.cons rfl (fun K hK => ?_) AllL.nil)
          ·
           have f0 := H9.out.f 0
           have f1 := H9.out.f 1
           have f2 := H9.out.f 2
           have f3 := H9.out.f 3
           obtain ⟨c0, c1, c2, c3⟩ := H9.out.c
           go_simp
           obtain ⟨w_8_92, hwn⟩ : ∃ z, (((w_5_91.setCell ⟨w_4_85.heap.size, 0, none⟩ (.int .i64 las)).setCell ⟨w_4_85.heap.size, 1, none⟩ (.int .i64 lan)).setCell ⟨w_4_85.heap.size, 2, none⟩ (.string lax)).setCell ⟨w_4_85.heap.size, 3, none⟩ (.int .i64 lat) = z := ⟨_, rfl⟩
           have H9n := Lib.hid (show Four w_8_92 (w_4_85.heap.size) (.int .i64 las) (.int .i64 lan) (.string lax) (.int .i64 lat) 29 from by rw [← hwn]; exact four_set H9.out _ _ _ _)
           have H10n := Lib.hid (show Four w_8_92 (w_1_1.heap.size) (.int .i64 0) (.int .i64 0) (.string ⟨#[]⟩) (.int .i64 0) 29 from by rw [← hwn]; exact four_far H10.out (by have := hq.out; omega) _ _ _ _)
           have HXn := Lib.hid (And.intro (show Four w_8_92 p (.int .u8 rk) (.int .i64 rn) (.string rx) (.int .i64 rt) 23 from by rw [← hwn]; exact four_far HX.out.1 (by have := hl9.out; omega) _ _ _ _) (show Four w_8_92 (p + 1) (.int .u8 sk) (.int .i64 sn) (.string sx) (.int .i64 st) 23 from by rw [← hwn]; exact four_far HX.out.2 (by have := hl9.out; omega) _ _ _ _))
           have KWn := Lib.hid (show Below W.heap.size W w_8_92 from by rw [← hwn]; exact below_set KW.out (by have := HP.out; have := hl9.out; omega) _ _ _ _)
           clear H9 H10 HX KW
           have H9 := H9n
           have H10 := H10n
           have HX := HXn
           have KW := KWn
           clear H9n H10n HXn KWn
           try rw [hwn]
           refine hK.out _ _ HX.out (fun hHeld => ?_)
           clear hK K hwn f0 f1 f2 f3 c0 c1 c2 c3
           try simp only [Act.put, List.setIfInBounds_toArray, List.set_cons_zero, List.set_cons_succ, List.getElem_toArray, List.getElem_cons_zero, List.getElem_cons_succ]
           refine anyL_ready (rs := [9]) (by kernel_rfl) (by simp) ?_
           refine (AllL.last rfl (by kernel_rfl) (fun K hK => ?_) AllL.nil)
           ·
            have f0 := H10.out.f 0
            have f1 := H10.out.f 1
            have f2 := H10.out.f 2
            have f3 := H10.out.f 3
            obtain ⟨c0, c1, c2, c3⟩ := H10.out.c
            go_simp
            obtain ⟨w_9_93, hwn⟩ : ∃ z, (((w_8_92.setCell ⟨w_1_1.heap.size, 0, none⟩ (.int .i64 lbs)).setCell ⟨w_1_1.heap.size, 1, none⟩ (.int .i64 lbn)).setCell ⟨w_1_1.heap.size, 2, none⟩ (.string lbx)).setCell ⟨w_1_1.heap.size, 3, none⟩ (.int .i64 lbt) = z := ⟨_, rfl⟩
            have H10n := Lib.hid (show Four w_9_93 (w_1_1.heap.size) (.int .i64 lbs) (.int .i64 lbn) (.string lbx) (.int .i64 lbt) 29 from by rw [← hwn]; exact four_set H10.out _ _ _ _)
            have H9n := Lib.hid (show Four w_9_93 (w_4_85.heap.size) (.int .i64 las) (.int .i64 lan) (.string lax) (.int .i64 lat) 29 from by rw [← hwn]; exact four_far H9.out (by have := hq.out; omega) _ _ _ _)
            have HXn := Lib.hid (And.intro (show Four w_9_93 p (.int .u8 rk) (.int .i64 rn) (.string rx) (.int .i64 rt) 23 from by rw [← hwn]; exact four_far HX.out.1 (by have := hl10.out; omega) _ _ _ _) (show Four w_9_93 (p + 1) (.int .u8 sk) (.int .i64 sn) (.string sx) (.int .i64 st) 23 from by rw [← hwn]; exact four_far HX.out.2 (by have := hl10.out; omega) _ _ _ _))
            have KWn := Lib.hid (show Below W.heap.size W w_9_93 from by rw [← hwn]; exact below_set KW.out (by have := HP.out; have := hl10.out; omega) _ _ _ _)
            clear H9 H10 HX KW
            have H9 := H9n
            have H10 := H10n
            have HX := HXn
            have KW := KWn
            clear H9n H10n HXn KWn
            try rw [hwn]
            refine hK.out _ _ ?_
            clear hK K hwn f0 f1 f2 f3 c0 c1 c2 c3
            try simp only [Act.put, List.setIfInBounds_toArray, List.set_cons_zero, List.set_cons_succ, List.getElem_toArray, List.getElem_cons_zero, List.getElem_cons_succ]
            refine anyL_done (by kernel_rfl) ?_ _
            go_wp2_with fail
            go_meet
            exact ⟨_, _, rfl, rfl, H9.out, H10.out, HX.out.1, HX.out.2, KW.out⟩
       ·
        go_simp
        obtain ⟨w_6_94, hwn⟩ : ∃ z, w_2_84.alloc (.cells #[.int .i64 0, .int .i64 0, .string ⟨#[]⟩, .int .i64 0] 29) = z := ⟨_, rfl⟩
        have k9 : Bl w_2_84 w_6_94 := by rw [← hwn]; exact (Below.refl _ _).alloc (Nat.le_refl _) _
        have H9 := Lib.hid (show Four w_6_94 w_2_84.heap.size (.int .i64 0) (.int .i64 0) (.string ⟨#[]⟩) (.int .i64 0) 29 from by rw [← hwn]; exact Four.new w_2_84 _ _ _ _ _)
        have hl9 := Lib.hid (lt_at HX.out.2)
        have hq := Lib.hid (lt_at H10.out)
        have HXn := Lib.hid (And.intro (HX.out.1.on k9) (HX.out.2.on k9))
        have KWn := Lib.hid (KW.out.trans ((k9 : Bl w_2_84 w_6_94).mono KW.out.size))
        clear HX KW
        have HX := HXn
        have KW := KWn
        clear HXn KWn
        have H10n := Lib.hid (H10.out.on k9)
        clear H10
        have H10 := H10n
        clear H10n
        try rw [hwn]
        refine hK.out _ _ HX.out (fun hHeld => ?_)
        clear hK K k9 hwn
        try simp only [Act.put, List.setIfInBounds_toArray, List.set_cons_zero, List.set_cons_succ, List.getElem_toArray, List.getElem_cons_zero, List.getElem_cons_succ]
        refine anyL_ready (rs := [4]) (by kernel_rfl) (by simp) ?_
        refine (AllL.cons rfl (fun K hK => ?_) AllL.nil)
        ·
         go_simp
         refine (HB _).mono ?_
         rintro e w_4_95 ⟨rfl, k9⟩
         have HXn := Lib.hid (And.intro (HX.out.1.on k9) (HX.out.2.on k9))
         have KWn := Lib.hid (KW.out.trans ((k9 : Bl w_6_94 w_4_95).mono KW.out.size))
         clear HX KW
         have HX := HXn
         have KW := KWn
         clear HXn KWn
         have H10n := Lib.hid (H10.out.on k9)
         clear H10
         have H10 := H10n
         clear H10n
         have H9n := Lib.hid (H9.out.on k9)
         clear H9
         have H9 := H9n
         clear H9n
         go_wp2_with fail
         refine hK.out _ _ HX.out (fun hHeld => ?_)
         clear hK K k9
         try simp only [Act.put, List.setIfInBounds_toArray, List.set_cons_zero, List.set_cons_succ, List.getElem_toArray, List.getElem_cons_zero, List.getElem_cons_succ]
         refine anyL_ready (rs := [5]) (by kernel_rfl) (by simp) ?_
         refine (AllL.cons rfl (fun K hK => ?_) AllL.nil)
         ·
          go_simp
          refine (HLB _).mono ?_
          rintro e w_5_96 ⟨rfl, k9⟩
          have HXn := Lib.hid (And.intro (HX.out.1.on k9) (HX.out.2.on k9))
          have KWn := Lib.hid (KW.out.trans ((k9 : Bl w_4_95 w_5_96).mono KW.out.size))
          clear HX KW
          have HX := HXn
          have KW := KWn
          clear HXn KWn
          have H10n := Lib.hid (H10.out.on k9)
          clear H10
          have H10 := H10n
          clear H10n
          have H9n := Lib.hid (H9.out.on k9)
          clear H9
          have H9 := H9n
          clear H9n
          go_wp2_with fail
          refine hK.out _ _ HX.out (fun hHeld => ?_)
          clear hK K k9
          try simp only [Act.put, List.setIfInBounds_toArray, List.set_cons_zero, List.set_cons_succ, List.getElem_toArray, List.getElem_cons_zero, List.getElem_cons_succ]
          refine anyL_ready (rs := [8]) (by kernel_rfl) (by simp) ?_
          refine (AllL.cons rfl (fun K hK => ?_) AllL.nil)
          ·
           have f0 := H9.out.f 0
           have f1 := H9.out.f 1
           have f2 := H9.out.f 2
           have f3 := H9.out.f 3
           obtain ⟨c0, c1, c2, c3⟩ := H9.out.c
           go_simp
           obtain ⟨w_8_97, hwn⟩ : ∃ z, (((w_5_96.setCell ⟨w_2_84.heap.size, 0, none⟩ (.int .i64 las)).setCell ⟨w_2_84.heap.size, 1, none⟩ (.int .i64 lan)).setCell ⟨w_2_84.heap.size, 2, none⟩ (.string lax)).setCell ⟨w_2_84.heap.size, 3, none⟩ (.int .i64 lat) = z := ⟨_, rfl⟩
           have H9n := Lib.hid (show Four w_8_97 (w_2_84.heap.size) (.int .i64 las) (.int .i64 lan) (.string lax) (.int .i64 lat) 29 from by rw [← hwn]; exact four_set H9.out _ _ _ _)
           have H10n := Lib.hid (show Four w_8_97 (w_1_1.heap.size) (.int .i64 0) (.int .i64 0) (.string ⟨#[]⟩) (.int .i64 0) 29 from by rw [← hwn]; exact four_far H10.out (by have := hq.out; omega) _ _ _ _)
           have HXn := Lib.hid (And.intro (show Four w_8_97 p (.int .u8 rk) (.int .i64 rn) (.string rx) (.int .i64 rt) 23 from by rw [← hwn]; exact four_far HX.out.1 (by have := hl9.out; omega) _ _ _ _) (show Four w_8_97 (p + 1) (.int .u8 sk) (.int .i64 sn) (.string sx) (.int .i64 st) 23 from by rw [← hwn]; exact four_far HX.out.2 (by have := hl9.out; omega) _ _ _ _))
           have KWn := Lib.hid (show Below W.heap.size W w_8_97 from by rw [← hwn]; exact below_set KW.out (by have := HP.out; have := hl9.out; omega) _ _ _ _)
           clear H9 H10 HX KW
           have H9 := H9n
           have H10 := H10n
           have HX := HXn
           have KW := KWn
           clear H9n H10n HXn KWn
           try rw [hwn]
           refine hK.out _ _ HX.out (fun hHeld => ?_)
           clear hK K hwn f0 f1 f2 f3 c0 c1 c2 c3
           try simp only [Act.put, List.setIfInBounds_toArray, List.set_cons_zero, List.set_cons_succ, List.getElem_toArray, List.getElem_cons_zero, List.getElem_cons_succ]
           refine anyL_ready (rs := [9]) (by kernel_rfl) (by simp) ?_
           refine (AllL.last rfl (by kernel_rfl) (fun K hK => ?_) AllL.nil)
           ·
            have f0 := H10.out.f 0
            have f1 := H10.out.f 1
            have f2 := H10.out.f 2
            have f3 := H10.out.f 3
            obtain ⟨c0, c1, c2, c3⟩ := H10.out.c
            go_simp
            obtain ⟨w_9_98, hwn⟩ : ∃ z, (((w_8_97.setCell ⟨w_1_1.heap.size, 0, none⟩ (.int .i64 lbs)).setCell ⟨w_1_1.heap.size, 1, none⟩ (.int .i64 lbn)).setCell ⟨w_1_1.heap.size, 2, none⟩ (.string lbx)).setCell ⟨w_1_1.heap.size, 3, none⟩ (.int .i64 lbt) = z := ⟨_, rfl⟩
            have H10n := Lib.hid (show Four w_9_98 (w_1_1.heap.size) (.int .i64 lbs) (.int .i64 lbn) (.string lbx) (.int .i64 lbt) 29 from by rw [← hwn]; exact four_set H10.out _ _ _ _)
            have H9n := Lib.hid (show Four w_9_98 (w_2_84.heap.size) (.int .i64 las) (.int .i64 lan) (.string lax) (.int .i64 lat) 29 from by rw [← hwn]; exact four_far H9.out (by have := hq.out; omega) _ _ _ _)
            have HXn := Lib.hid (And.intro (show Four w_9_98 p (.int .u8 rk) (.int .i64 rn) (.string rx) (.int .i64 rt) 23 from by rw [← hwn]; exact four_far HX.out.1 (by have := hl10.out; omega) _ _ _ _) (show Four w_9_98 (p + 1) (.int .u8 sk) (.int .i64 sn) (.string sx) (.int .i64 st) 23 from by rw [← hwn]; exact four_far HX.out.2 (by have := hl10.out; omega) _ _ _ _))
            have KWn := Lib.hid (show Below W.heap.size W w_9_98 from by rw [← hwn]; exact below_set KW.out (by have := HP.out; have := hl10.out; omega) _ _ _ _)
            clear H9 H10 HX KW
            have H9 := H9n
            have H10 := H10n
            have HX := HXn
            have KW := KWn
            clear H9n H10n HXn KWn
            try rw [hwn]
            refine hK.out _ _ ?_
            clear hK K hwn f0 f1 f2 f3 c0 c1 c2 c3
            try simp only [Act.put, List.setIfInBounds_toArray, List.set_cons_zero, List.set_cons_succ, List.getElem_toArray, List.getElem_cons_zero, List.getElem_cons_succ]
            refine anyL_done (by kernel_rfl) ?_ _
            go_wp2_with fail
            go_meet
            exact ⟨_, _, rfl, rfl, H9.out, H10.out, HX.out.1, HX.out.2, KW.out⟩
      ·
       go_simp
       obtain ⟨w_6_99, hwn⟩ : ∃ z, w_7_83.alloc (.cells #[.int .i64 0, .int .i64 0, .string ⟨#[]⟩, .int .i64 0] 29) = z := ⟨_, rfl⟩
       have k9 : Bl w_7_83 w_6_99 := by rw [← hwn]; exact (Below.refl _ _).alloc (Nat.le_refl _) _
       have H9 := Lib.hid (show Four w_6_99 w_7_83.heap.size (.int .i64 0) (.int .i64 0) (.string ⟨#[]⟩) (.int .i64 0) 29 from by rw [← hwn]; exact Four.new w_7_83 _ _ _ _ _)
       have hl9 := Lib.hid (lt_at HX.out.2)
       have hq := Lib.hid (lt_at H10.out)
       have HXn := Lib.hid (And.intro (HX.out.1.on k9) (HX.out.2.on k9))
       have KWn := Lib.hid (KW.out.trans ((k9 : Bl w_7_83 w_6_99).mono KW.out.size))
       clear HX KW
       have HX := HXn
       have KW := KWn
       clear HXn KWn
       have H10n := Lib.hid (H10.out.on k9)
       clear H10
       have H10 := H10n
       clear H10n
       try rw [hwn]
       refine hK.out _ _ HX.out (fun hHeld => ?_)
       clear hK K k9 hwn
       try simp only [Act.put, List.setIfInBounds_toArray, List.set_cons_zero, List.set_cons_succ, List.getElem_toArray, List.getElem_cons_zero, List.getElem_cons_succ]
       refine anyL_ready (rs := [2]) (by kernel_rfl) (by simp) ?_
       refine (AllL.cons rfl (fun K hK => ?_) AllL.nil)
       ·
        go_simp
        refine (HLA _).mono ?_
        rintro e w_2_100 ⟨rfl, k9⟩
        have HXn := Lib.hid (And.intro (HX.out.1.on k9) (HX.out.2.on k9))
        have KWn := Lib.hid (KW.out.trans ((k9 : Bl w_6_99 w_2_100).mono KW.out.size))
        clear HX KW
        have HX := HXn
        have KW := KWn
        clear HXn KWn
        have H10n := Lib.hid (H10.out.on k9)
        clear H10
        have H10 := H10n
        clear H10n
        have H9n := Lib.hid (H9.out.on k9)
        clear H9
        have H9 := H9n
        clear H9n
        go_wp2_with fail
        refine hK.out _ _ HX.out (fun hHeld => ?_)
        clear hK K k9
        try simp only [Act.put, List.setIfInBounds_toArray, List.set_cons_zero, List.set_cons_succ, List.getElem_toArray, List.getElem_cons_zero, List.getElem_cons_succ]
        refine anyL_ready (rs := [4]) (by kernel_rfl) (by simp) ?_
        refine (AllL.cons rfl (fun K hK => ?_) AllL.nil)
        ·
         go_simp
         refine (HB _).mono ?_
         rintro e w_4_101 ⟨rfl, k9⟩
         have HXn := Lib.hid (And.intro (HX.out.1.on k9) (HX.out.2.on k9))
         have KWn := Lib.hid (KW.out.trans ((k9 : Bl w_2_100 w_4_101).mono KW.out.size))
         clear HX KW
         have HX := HXn
         have KW := KWn
         clear HXn KWn
         have H10n := Lib.hid (H10.out.on k9)
         clear H10
         have H10 := H10n
         clear H10n
         have H9n := Lib.hid (H9.out.on k9)
         clear H9
         have H9 := H9n
         clear H9n
         go_wp2_with fail
         refine hK.out _ _ HX.out (fun hHeld => ?_)
         clear hK K k9
         try simp only [Act.put, List.setIfInBounds_toArray, List.set_cons_zero, List.set_cons_succ, List.getElem_toArray, List.getElem_cons_zero, List.getElem_cons_succ]
         refine anyL_ready (rs := [5]) (by kernel_rfl) (by simp) ?_
         refine (AllL.cons rfl (fun K hK => ?_) AllL.nil)
         ·
          go_simp
          refine (HLB _).mono ?_
          rintro e w_5_102 ⟨rfl, k9⟩
          have HXn := Lib.hid (And.intro (HX.out.1.on k9) (HX.out.2.on k9))
          have KWn := Lib.hid (KW.out.trans ((k9 : Bl w_4_101 w_5_102).mono KW.out.size))
          clear HX KW
          have HX := HXn
          have KW := KWn
          clear HXn KWn
          have H10n := Lib.hid (H10.out.on k9)
          clear H10
          have H10 := H10n
          clear H10n
          have H9n := Lib.hid (H9.out.on k9)
          clear H9
          have H9 := H9n
          clear H9n
          go_wp2_with fail
          refine hK.out _ _ HX.out (fun hHeld => ?_)
          clear hK K k9
          try simp only [Act.put, List.setIfInBounds_toArray, List.set_cons_zero, List.set_cons_succ, List.getElem_toArray, List.getElem_cons_zero, List.getElem_cons_succ]
          refine anyL_ready (rs := [8]) (by kernel_rfl) (by simp) ?_
          refine (AllL.cons rfl (fun K hK => ?_) AllL.nil)
          ·
           have f0 := H9.out.f 0
           have f1 := H9.out.f 1
           have f2 := H9.out.f 2
           have f3 := H9.out.f 3
           obtain ⟨c0, c1, c2, c3⟩ := H9.out.c
           go_simp
           obtain ⟨w_8_103, hwn⟩ : ∃ z, (((w_5_102.setCell ⟨w_7_83.heap.size, 0, none⟩ (.int .i64 las)).setCell ⟨w_7_83.heap.size, 1, none⟩ (.int .i64 lan)).setCell ⟨w_7_83.heap.size, 2, none⟩ (.string lax)).setCell ⟨w_7_83.heap.size, 3, none⟩ (.int .i64 lat) = z := ⟨_, rfl⟩
           have H9n := Lib.hid (show Four w_8_103 (w_7_83.heap.size) (.int .i64 las) (.int .i64 lan) (.string lax) (.int .i64 lat) 29 from by rw [← hwn]; exact four_set H9.out _ _ _ _)
           have H10n := Lib.hid (show Four w_8_103 (w_1_1.heap.size) (.int .i64 0) (.int .i64 0) (.string ⟨#[]⟩) (.int .i64 0) 29 from by rw [← hwn]; exact four_far H10.out (by have := hq.out; omega) _ _ _ _)
           have HXn := Lib.hid (And.intro (show Four w_8_103 p (.int .u8 rk) (.int .i64 rn) (.string rx) (.int .i64 rt) 23 from by rw [← hwn]; exact four_far HX.out.1 (by have := hl9.out; omega) _ _ _ _) (show Four w_8_103 (p + 1) (.int .u8 sk) (.int .i64 sn) (.string sx) (.int .i64 st) 23 from by rw [← hwn]; exact four_far HX.out.2 (by have := hl9.out; omega) _ _ _ _))
           have KWn := Lib.hid (show Below W.heap.size W w_8_103 from by rw [← hwn]; exact below_set KW.out (by have := HP.out; have := hl9.out; omega) _ _ _ _)
           clear H9 H10 HX KW
           have H9 := H9n
           have H10 := H10n
           have HX := HXn
           have KW := KWn
           clear H9n H10n HXn KWn
           try rw [hwn]
           refine hK.out _ _ HX.out (fun hHeld => ?_)
           clear hK K hwn f0 f1 f2 f3 c0 c1 c2 c3
           try simp only [Act.put, List.setIfInBounds_toArray, List.set_cons_zero, List.set_cons_succ, List.getElem_toArray, List.getElem_cons_zero, List.getElem_cons_succ]
           refine anyL_ready (rs := [9]) (by kernel_rfl) (by simp) ?_
           refine (AllL.last rfl (by kernel_rfl) (fun K hK => ?_) AllL.nil)
           ·
            have f0 := H10.out.f 0
            have f1 := H10.out.f 1
            have f2 := H10.out.f 2
            have f3 := H10.out.f 3
            obtain ⟨c0, c1, c2, c3⟩ := H10.out.c
            go_simp
            obtain ⟨w_9_104, hwn⟩ : ∃ z, (((w_8_103.setCell ⟨w_1_1.heap.size, 0, none⟩ (.int .i64 lbs)).setCell ⟨w_1_1.heap.size, 1, none⟩ (.int .i64 lbn)).setCell ⟨w_1_1.heap.size, 2, none⟩ (.string lbx)).setCell ⟨w_1_1.heap.size, 3, none⟩ (.int .i64 lbt) = z := ⟨_, rfl⟩
            have H10n := Lib.hid (show Four w_9_104 (w_1_1.heap.size) (.int .i64 lbs) (.int .i64 lbn) (.string lbx) (.int .i64 lbt) 29 from by rw [← hwn]; exact four_set H10.out _ _ _ _)
            have H9n := Lib.hid (show Four w_9_104 (w_7_83.heap.size) (.int .i64 las) (.int .i64 lan) (.string lax) (.int .i64 lat) 29 from by rw [← hwn]; exact four_far H9.out (by have := hq.out; omega) _ _ _ _)
            have HXn := Lib.hid (And.intro (show Four w_9_104 p (.int .u8 rk) (.int .i64 rn) (.string rx) (.int .i64 rt) 23 from by rw [← hwn]; exact four_far HX.out.1 (by have := hl10.out; omega) _ _ _ _) (show Four w_9_104 (p + 1) (.int .u8 sk) (.int .i64 sn) (.string sx) (.int .i64 st) 23 from by rw [← hwn]; exact four_far HX.out.2 (by have := hl10.out; omega) _ _ _ _))
            have KWn := Lib.hid (show Below W.heap.size W w_9_104 from by rw [← hwn]; exact below_set KW.out (by have := HP.out; have := hl10.out; omega) _ _ _ _)
            clear H9 H10 HX KW
            have H9 := H9n
            have H10 := H10n
            have HX := HXn
            have KW := KWn
            clear H9n H10n HXn KWn
            try rw [hwn]
            refine hK.out _ _ ?_
            clear hK K hwn f0 f1 f2 f3 c0 c1 c2 c3
            try simp only [Act.put, List.setIfInBounds_toArray, List.set_cons_zero, List.set_cons_succ, List.getElem_toArray, List.getElem_cons_zero, List.getElem_cons_succ]
            refine anyL_done (by kernel_rfl) ?_ _
            go_wp2_with fail
            go_meet
            exact ⟨_, _, rfl, rfl, H9.out, H10.out, HX.out.1, HX.out.2, KW.out⟩
    ·
     go_simp
     obtain ⟨w_6_105, hwn⟩ : ∃ z, w1d.alloc (.cells #[.int .i64 0, .int .i64 0, .string ⟨#[]⟩, .int .i64 0] 29) = z := ⟨_, rfl⟩
     have k9 : Bl w1d w_6_105 := by rw [← hwn]; exact (Below.refl _ _).alloc (Nat.le_refl _) _
     have H9 := Lib.hid (show Four w_6_105 w1d.heap.size (.int .i64 0) (.int .i64 0) (.string ⟨#[]⟩) (.int .i64 0) 29 from by rw [← hwn]; exact Four.new w1d _ _ _ _ _)
     have hl9 := Lib.hid (lt_at HX.out.2)
     
     have HXn := Lib.hid (And.intro (HX.out.1.on k9) (HX.out.2.on k9))
     have KWn := Lib.hid (KW.out.trans ((k9 : Bl w1d w_6_105).mono KW.out.size))
     clear HX KW
     have HX := HXn
     have KW := KWn
     clear HXn KWn
     try rw [hwn]
     refine hK.out _ _ HX.out (fun hHeld => ?_)
     clear hK K k9 hwn
     try simp only [Act.put, List.setIfInBounds_toArray, List.set_cons_zero, List.set_cons_succ, List.getElem_toArray, List.getElem_cons_zero, List.getElem_cons_succ]
     refine anyL_ready (rs := [1, 7]) (by kernel_rfl) (by simp) ?_
     refine (AllL.cons rfl (fun K hK => ?_) (AllL.cons rfl (fun K hK => ?_) AllL.nil))
     ·
      go_simp
      refine (HA _).mono ?_
      rintro e w_1_106 ⟨rfl, k9⟩
      have HXn := Lib.hid (And.intro (HX.out.1.on k9) (HX.out.2.on k9))
      have KWn := Lib.hid (KW.out.trans ((k9 : Bl w_6_105 w_1_106).mono KW.out.size))
      clear HX KW
      have HX := HXn
      have KW := KWn
      clear HXn KWn
      have H9n := Lib.hid (H9.out.on k9)
      clear H9
      have H9 := H9n
      clear H9n
      go_wp2_with fail
      refine hK.out _ _ HX.out (fun hHeld => ?_)
      clear hK K k9
      try simp only [Act.put, List.setIfInBounds_toArray, List.set_cons_zero, List.set_cons_succ, List.getElem_toArray, List.getElem_cons_zero, List.getElem_cons_succ]
      refine anyL_ready (rs := [2, 7]) (by kernel_rfl) (by simp) ?_
      refine (AllL.cons rfl (fun K hK => ?_) (AllL.cons rfl (fun K hK => ?_) AllL.nil))
      ·
       go_simp
       refine (HLA _).mono ?_
       rintro e w_2_107 ⟨rfl, k9⟩
       have HXn := Lib.hid (And.intro (HX.out.1.on k9) (HX.out.2.on k9))
       have KWn := Lib.hid (KW.out.trans ((k9 : Bl w_1_106 w_2_107).mono KW.out.size))
       clear HX KW
       have HX := HXn
       have KW := KWn
       clear HXn KWn
       have H9n := Lib.hid (H9.out.on k9)
       clear H9
       have H9 := H9n
       clear H9n
       go_wp2_with fail
       refine hK.out _ _ HX.out (fun hHeld => ?_)
       clear hK K k9
       try simp only [Act.put, List.setIfInBounds_toArray, List.set_cons_zero, List.set_cons_succ, List.getElem_toArray, List.getElem_cons_zero, List.getElem_cons_succ]
       refine anyL_ready (rs := [4, 7]) (by kernel_rfl) (by simp) ?_
       refine (AllL.cons rfl (fun K hK => ?_) (AllL.cons rfl (fun K hK => ?_) AllL.nil))
       ·
        go_simp
        refine (HB _).mono ?_
        rintro e w_4_108 ⟨rfl, k9⟩
        have HXn := Lib.hid (And.intro (HX.out.1.on k9) (HX.out.2.on k9))
        have KWn := Lib.hid (KW.out.trans ((k9 : Bl w_2_107 w_4_108).mono KW.out.size))
        clear HX KW
        have HX := HXn
        have KW := KWn
        clear HXn KWn
        have H9n := Lib.hid (H9.out.on k9)
        clear H9
        have H9 := H9n
        clear H9n
        go_wp2_with fail
        refine hK.out _ _ HX.out (fun hHeld => ?_)
        clear hK K k9
        try simp only [Act.put, List.setIfInBounds_toArray, List.set_cons_zero, List.set_cons_succ, List.getElem_toArray, List.getElem_cons_zero, List.getElem_cons_succ]
        refine anyL_ready (rs := [5, 7]) (by kernel_rfl) (by simp) ?_
        refine (AllL.cons rfl (fun K hK => ?_) (AllL.cons rfl (fun K hK => ?_) AllL.nil))
        ·
         go_simp
         refine (HLB _).mono ?_
         rintro e w_5_109 ⟨rfl, k9⟩
         have HXn := Lib.hid (And.intro (HX.out.1.on k9) (HX.out.2.on k9))
         have KWn := Lib.hid (KW.out.trans ((k9 : Bl w_4_108 w_5_109).mono KW.out.size))
         clear HX KW
         have HX := HXn
         have KW := KWn
         clear HXn KWn
         have H9n := Lib.hid (H9.out.on k9)
         clear H9
         have H9 := H9n
         clear H9n
         go_wp2_with fail
         refine hK.out _ _ HX.out (fun hHeld => ?_)
         clear hK K k9
         try simp only [Act.put, List.setIfInBounds_toArray, List.set_cons_zero, List.set_cons_succ, List.getElem_toArray, List.getElem_cons_zero, List.getElem_cons_succ]
         refine anyL_ready (rs := [7]) (by kernel_rfl) (by simp) ?_
         refine (AllL.cons rfl (fun K hK => ?_) AllL.nil)
         ·
          go_simp
          obtain ⟨w_7_110, hwn⟩ : ∃ z, w_5_109.alloc (.cells #[.int .i64 0, .int .i64 0, .string ⟨#[]⟩, .int .i64 0] 29) = z := ⟨_, rfl⟩
          have k9 : Bl w_5_109 w_7_110 := by rw [← hwn]; exact (Below.refl _ _).alloc (Nat.le_refl _) _
          have H10 := Lib.hid (show Four w_7_110 w_5_109.heap.size (.int .i64 0) (.int .i64 0) (.string ⟨#[]⟩) (.int .i64 0) 29 from by rw [← hwn]; exact Four.new w_5_109 _ _ _ _ _)
          have hl10 := Lib.hid (lt_at HX.out.2)
          have hq := Lib.hid (lt_at H9.out)
          have HXn := Lib.hid (And.intro (HX.out.1.on k9) (HX.out.2.on k9))
          have KWn := Lib.hid (KW.out.trans ((k9 : Bl w_5_109 w_7_110).mono KW.out.size))
          clear HX KW
          have HX := HXn
          have KW := KWn
          clear HXn KWn
          have H9n := Lib.hid (H9.out.on k9)
          clear H9
          have H9 := H9n
          clear H9n
          try rw [hwn]
          refine hK.out _ _ HX.out (fun hHeld => ?_)
          clear hK K k9 hwn
          try simp only [Act.put, List.setIfInBounds_toArray, List.set_cons_zero, List.set_cons_succ, List.getElem_toArray, List.getElem_cons_zero, List.getElem_cons_succ]
          refine anyL_ready (rs := [8]) (by kernel_rfl) (by simp) ?_
          refine (AllL.cons rfl (fun K hK => ?_) AllL.nil)
          ·
           have f0 := H9.out.f 0
           have f1 := H9.out.f 1
           have f2 := H9.out.f 2
           have f3 := H9.out.f 3
           obtain ⟨c0, c1, c2, c3⟩ := H9.out.c
           go_simp
           obtain ⟨w_8_111, hwn⟩ : ∃ z, (((w_7_110.setCell ⟨w1d.heap.size, 0, none⟩ (.int .i64 las)).setCell ⟨w1d.heap.size, 1, none⟩ (.int .i64 lan)).setCell ⟨w1d.heap.size, 2, none⟩ (.string lax)).setCell ⟨w1d.heap.size, 3, none⟩ (.int .i64 lat) = z := ⟨_, rfl⟩
           have H9n := Lib.hid (show Four w_8_111 (w1d.heap.size) (.int .i64 las) (.int .i64 lan) (.string lax) (.int .i64 lat) 29 from by rw [← hwn]; exact four_set H9.out _ _ _ _)
           have H10n := Lib.hid (show Four w_8_111 (w_5_109.heap.size) (.int .i64 0) (.int .i64 0) (.string ⟨#[]⟩) (.int .i64 0) 29 from by rw [← hwn]; exact four_far H10.out (by have := hq.out; omega) _ _ _ _)
           have HXn := Lib.hid (And.intro (show Four w_8_111 p (.int .u8 rk) (.int .i64 rn) (.string rx) (.int .i64 rt) 23 from by rw [← hwn]; exact four_far HX.out.1 (by have := hl9.out; omega) _ _ _ _) (show Four w_8_111 (p + 1) (.int .u8 sk) (.int .i64 sn) (.string sx) (.int .i64 st) 23 from by rw [← hwn]; exact four_far HX.out.2 (by have := hl9.out; omega) _ _ _ _))
           have KWn := Lib.hid (show Below W.heap.size W w_8_111 from by rw [← hwn]; exact below_set KW.out (by have := HP.out; have := hl9.out; omega) _ _ _ _)
           clear H9 H10 HX KW
           have H9 := H9n
           have H10 := H10n
           have HX := HXn
           have KW := KWn
           clear H9n H10n HXn KWn
           try rw [hwn]
           refine hK.out _ _ HX.out (fun hHeld => ?_)
           clear hK K hwn f0 f1 f2 f3 c0 c1 c2 c3
           try simp only [Act.put, List.setIfInBounds_toArray, List.set_cons_zero, List.set_cons_succ, List.getElem_toArray, List.getElem_cons_zero, List.getElem_cons_succ]
           refine anyL_ready (rs := [9]) (by kernel_rfl) (by simp) ?_
           refine (AllL.last rfl (by kernel_rfl) (fun K hK => ?_) AllL.nil)
           ·
            have f0 := H10.out.f 0
            have f1 := H10.out.f 1
            have f2 := H10.out.f 2
            have f3 := H10.out.f 3
            obtain ⟨c0, c1, c2, c3⟩ := H10.out.c
            go_simp
            obtain ⟨w_9_112, hwn⟩ : ∃ z, (((w_8_111.setCell ⟨w_5_109.heap.size, 0, none⟩ (.int .i64 lbs)).setCell ⟨w_5_109.heap.size, 1, none⟩ (.int .i64 lbn)).setCell ⟨w_5_109.heap.size, 2, none⟩ (.string lbx)).setCell ⟨w_5_109.heap.size, 3, none⟩ (.int .i64 lbt) = z := ⟨_, rfl⟩
            have H10n := Lib.hid (show Four w_9_112 (w_5_109.heap.size) (.int .i64 lbs) (.int .i64 lbn) (.string lbx) (.int .i64 lbt) 29 from by rw [← hwn]; exact four_set H10.out _ _ _ _)
            have H9n := Lib.hid (show Four w_9_112 (w1d.heap.size) (.int .i64 las) (.int .i64 lan) (.string lax) (.int .i64 lat) 29 from by rw [← hwn]; exact four_far H9.out (by have := hq.out; omega) _ _ _ _)
            have HXn := Lib.hid (And.intro (show Four w_9_112 p (.int .u8 rk) (.int .i64 rn) (.string rx) (.int .i64 rt) 23 from by rw [← hwn]; exact four_far HX.out.1 (by have := hl10.out; omega) _ _ _ _) (show Four w_9_112 (p + 1) (.int .u8 sk) (.int .i64 sn) (.string sx) (.int .i64 st) 23 from by rw [← hwn]; exact four_far HX.out.2 (by have := hl10.out; omega) _ _ _ _))
            have KWn := Lib.hid (show Below W.heap.size W w_9_112 from by rw [← hwn]; exact below_set KW.out (by have := HP.out; have := hl10.out; omega) _ _ _ _)
            clear H9 H10 HX KW
            have H9 := H9n
            have H10 := H10n
            have HX := HXn
            have KW := KWn
            clear H9n H10n HXn KWn
            try rw [hwn]
            refine hK.out _ _ ?_
            clear hK K hwn f0 f1 f2 f3 c0 c1 c2 c3
            try simp only [Act.put, List.setIfInBounds_toArray, List.set_cons_zero, List.set_cons_succ, List.getElem_toArray, List.getElem_cons_zero, List.getElem_cons_succ]
            refine anyL_done (by kernel_rfl) ?_ _
            go_wp2_with fail
            go_meet
            exact ⟨_, _, rfl, rfl, H9.out, H10.out, HX.out.1, HX.out.2, KW.out⟩
        ·
         go_simp
         obtain ⟨w_7_113, hwn⟩ : ∃ z, w_4_108.alloc (.cells #[.int .i64 0, .int .i64 0, .string ⟨#[]⟩, .int .i64 0] 29) = z := ⟨_, rfl⟩
         have k9 : Bl w_4_108 w_7_113 := by rw [← hwn]; exact (Below.refl _ _).alloc (Nat.le_refl _) _
         have H10 := Lib.hid (show Four w_7_113 w_4_108.heap.size (.int .i64 0) (.int .i64 0) (.string ⟨#[]⟩) (.int .i64 0) 29 from by rw [← hwn]; exact Four.new w_4_108 _ _ _ _ _)
         have hl10 := Lib.hid (lt_at HX.out.2)
         have hq := Lib.hid (lt_at H9.out)
         have HXn := Lib.hid (And.intro (HX.out.1.on k9) (HX.out.2.on k9))
         have KWn := Lib.hid (KW.out.trans ((k9 : Bl w_4_108 w_7_113).mono KW.out.size))
         clear HX KW
         have HX := HXn
         have KW := KWn
         clear HXn KWn
         have H9n := Lib.hid (H9.out.on k9)
         clear H9
         have H9 := H9n
         clear H9n
         try rw [hwn]
         refine hK.out _ _ HX.out (fun hHeld => ?_)
         clear hK K k9 hwn
         try simp only [Act.put, List.setIfInBounds_toArray, List.set_cons_zero, List.set_cons_succ, List.getElem_toArray, List.getElem_cons_zero, List.getElem_cons_succ]
         refine anyL_ready (rs := [5]) (by kernel_rfl) (by simp) ?_
         refine (AllL.cons rfl (fun K hK => ?_) AllL.nil)
         ·
          go_simp
          refine (HLB _).mono ?_
          rintro e w_5_114 ⟨rfl, k9⟩
          have HXn := Lib.hid (And.intro (HX.out.1.on k9) (HX.out.2.on k9))
          have KWn := Lib.hid (KW.out.trans ((k9 : Bl w_7_113 w_5_114).mono KW.out.size))
          clear HX KW
          have HX := HXn
          have KW := KWn
          clear HXn KWn
          have H9n := Lib.hid (H9.out.on k9)
          clear H9
          have H9 := H9n
          clear H9n
          have H10n := Lib.hid (H10.out.on k9)
          clear H10
          have H10 := H10n
          clear H10n
          go_wp2_with fail
          refine hK.out _ _ HX.out (fun hHeld => ?_)
          clear hK K k9
          try simp only [Act.put, List.setIfInBounds_toArray, List.set_cons_zero, List.set_cons_succ, List.getElem_toArray, List.getElem_cons_zero, List.getElem_cons_succ]
          refine anyL_ready (rs := [8]) (by kernel_rfl) (by simp) ?_
          refine (AllL.cons rfl (fun K hK => ?_) AllL.nil)
          ·
           have f0 := H9.out.f 0
           have f1 := H9.out.f 1
           have f2 := H9.out.f 2
           have f3 := H9.out.f 3
           obtain ⟨c0, c1, c2, c3⟩ := H9.out.c
           go_simp
           obtain ⟨w_8_115, hwn⟩ : ∃ z, (((w_5_114.setCell ⟨w1d.heap.size, 0, none⟩ (.int .i64 las)).setCell ⟨w1d.heap.size, 1, none⟩ (.int .i64 lan)).setCell ⟨w1d.heap.size, 2, none⟩ (.string lax)).setCell ⟨w1d.heap.size, 3, none⟩ (.int .i64 lat) = z := ⟨_, rfl⟩
           have H9n := Lib.hid (show Four w_8_115 (w1d.heap.size) (.int .i64 las) (.int .i64 lan) (.string lax) (.int .i64 lat) 29 from by rw [← hwn]; exact four_set H9.out _ _ _ _)
           have H10n := Lib.hid (show Four w_8_115 (w_4_108.heap.size) (.int .i64 0) (.int .i64 0) (.string ⟨#[]⟩) (.int .i64 0) 29 from by rw [← hwn]; exact four_far H10.out (by have := hq.out; omega) _ _ _ _)
           have HXn := Lib.hid (And.intro (show Four w_8_115 p (.int .u8 rk) (.int .i64 rn) (.string rx) (.int .i64 rt) 23 from by rw [← hwn]; exact four_far HX.out.1 (by have := hl9.out; omega) _ _ _ _) (show Four w_8_115 (p + 1) (.int .u8 sk) (.int .i64 sn) (.string sx) (.int .i64 st) 23 from by rw [← hwn]; exact four_far HX.out.2 (by have := hl9.out; omega) _ _ _ _))
           have KWn := Lib.hid (show Below W.heap.size W w_8_115 from by rw [← hwn]; exact below_set KW.out (by have := HP.out; have := hl9.out; omega) _ _ _ _)
           clear H9 H10 HX KW
           have H9 := H9n
           have H10 := H10n
           have HX := HXn
           have KW := KWn
           clear H9n H10n HXn KWn
           try rw [hwn]
           refine hK.out _ _ HX.out (fun hHeld => ?_)
           clear hK K hwn f0 f1 f2 f3 c0 c1 c2 c3
           try simp only [Act.put, List.setIfInBounds_toArray, List.set_cons_zero, List.set_cons_succ, List.getElem_toArray, List.getElem_cons_zero, List.getElem_cons_succ]
           refine anyL_ready (rs := [9]) (by kernel_rfl) (by simp) ?_
           refine (AllL.last rfl (by kernel_rfl) (fun K hK => ?_) AllL.nil)
           ·
            have f0 := H10.out.f 0
            have f1 := H10.out.f 1
            have f2 := H10.out.f 2
            have f3 := H10.out.f 3
            obtain ⟨c0, c1, c2, c3⟩ := H10.out.c
            go_simp
            obtain ⟨w_9_116, hwn⟩ : ∃ z, (((w_8_115.setCell ⟨w_4_108.heap.size, 0, none⟩ (.int .i64 lbs)).setCell ⟨w_4_108.heap.size, 1, none⟩ (.int .i64 lbn)).setCell ⟨w_4_108.heap.size, 2, none⟩ (.string lbx)).setCell ⟨w_4_108.heap.size, 3, none⟩ (.int .i64 lbt) = z := ⟨_, rfl⟩
            have H10n := Lib.hid (show Four w_9_116 (w_4_108.heap.size) (.int .i64 lbs) (.int .i64 lbn) (.string lbx) (.int .i64 lbt) 29 from by rw [← hwn]; exact four_set H10.out _ _ _ _)
            have H9n := Lib.hid (show Four w_9_116 (w1d.heap.size) (.int .i64 las) (.int .i64 lan) (.string lax) (.int .i64 lat) 29 from by rw [← hwn]; exact four_far H9.out (by have := hq.out; omega) _ _ _ _)
            have HXn := Lib.hid (And.intro (show Four w_9_116 p (.int .u8 rk) (.int .i64 rn) (.string rx) (.int .i64 rt) 23 from by rw [← hwn]; exact four_far HX.out.1 (by have := hl10.out; omega) _ _ _ _) (show Four w_9_116 (p + 1) (.int .u8 sk) (.int .i64 sn) (.string sx) (.int .i64 st) 23 from by rw [← hwn]; exact four_far HX.out.2 (by have := hl10.out; omega) _ _ _ _))
            have KWn := Lib.hid (show Below W.heap.size W w_9_116 from by rw [← hwn]; exact below_set KW.out (by have := HP.out; have := hl10.out; omega) _ _ _ _)
            clear H9 H10 HX KW
            have H9 := H9n
            have H10 := H10n
            have HX := HXn
            have KW := KWn
            clear H9n H10n HXn KWn
            try rw [hwn]
            refine hK.out _ _ ?_
            clear hK K hwn f0 f1 f2 f3 c0 c1 c2 c3
            try simp only [Act.put, List.setIfInBounds_toArray, List.set_cons_zero, List.set_cons_succ, List.getElem_toArray, List.getElem_cons_zero, List.getElem_cons_succ]
            refine anyL_done (by kernel_rfl) ?_ _
            go_wp2_with fail
            go_meet
            exact ⟨_, _, rfl, rfl, H9.out, H10.out, HX.out.1, HX.out.2, KW.out⟩
       ·
        go_simp
        obtain ⟨w_7_117, hwn⟩ : ∃ z, w_2_107.alloc (.cells #[.int .i64 0, .int .i64 0, .string ⟨#[]⟩, .int .i64 0] 29) = z := ⟨_, rfl⟩
        have k9 : Bl w_2_107 w_7_117 := by rw [← hwn]; exact (Below.refl _ _).alloc (Nat.le_refl _) _
        have H10 := Lib.hid (show Four w_7_117 w_2_107.heap.size (.int .i64 0) (.int .i64 0) (.string ⟨#[]⟩) (.int .i64 0) 29 from by rw [← hwn]; exact Four.new w_2_107 _ _ _ _ _)
        have hl10 := Lib.hid (lt_at HX.out.2)
        have hq := Lib.hid (lt_at H9.out)
        have HXn := Lib.hid (And.intro (HX.out.1.on k9) (HX.out.2.on k9))
        have KWn := Lib.hid (KW.out.trans ((k9 : Bl w_2_107 w_7_117).mono KW.out.size))
        clear HX KW
        have HX := HXn
        have KW := KWn
        clear HXn KWn
        have H9n := Lib.hid (H9.out.on k9)
        clear H9
        have H9 := H9n
        clear H9n
        try rw [hwn]
        refine hK.out _ _ HX.out (fun hHeld => ?_)
        clear hK K k9 hwn
        try simp only [Act.put, List.setIfInBounds_toArray, List.set_cons_zero, List.set_cons_succ, List.getElem_toArray, List.getElem_cons_zero, List.getElem_cons_succ]
        refine anyL_ready (rs := [4]) (by kernel_rfl) (by simp) ?_
        refine (AllL.cons rfl (fun K hK => ?_) AllL.nil)
        ·
         go_simp
         refine (HB _).mono ?_
         rintro e w_4_118 ⟨rfl, k9⟩
         have HXn := Lib.hid (And.intro (HX.out.1.on k9) (HX.out.2.on k9))
         have KWn := Lib.hid (KW.out.trans ((k9 : Bl w_7_117 w_4_118).mono KW.out.size))
         clear HX KW
         have HX := HXn
         have KW := KWn
         clear HXn KWn
         have H9n := Lib.hid (H9.out.on k9)
         clear H9
         have H9 := H9n
         clear H9n
         have H10n := Lib.hid (H10.out.on k9)
         clear H10
         have H10 := H10n
         clear H10n
         go_wp2_with fail
         refine hK.out _ _ HX.out (fun hHeld => ?_)
         clear hK K k9
         try simp only [Act.put, List.setIfInBounds_toArray, List.set_cons_zero, List.set_cons_succ, List.getElem_toArray, List.getElem_cons_zero, List.getElem_cons_succ]
         refine anyL_ready (rs := [5]) (by kernel_rfl) (by simp) ?_
         refine (AllL.cons rfl (fun K hK => ?_) AllL.nil)
         ·
          go_simp
          refine (HLB _).mono ?_
          rintro e w_5_119 ⟨rfl, k9⟩
          have HXn := Lib.hid (And.intro (HX.out.1.on k9) (HX.out.2.on k9))
          have KWn := Lib.hid (KW.out.trans ((k9 : Bl w_4_118 w_5_119).mono KW.out.size))
          clear HX KW
          have HX := HXn
          have KW := KWn
          clear HXn KWn
          have H9n := Lib.hid (H9.out.on k9)
          clear H9
          have H9 := H9n
          clear H9n
          have H10n := Lib.hid (H10.out.on k9)
          clear H10
          have H10 := H10n
          clear H10n
          go_wp2_with fail
          refine hK.out _ _ HX.out (fun hHeld => ?_)
          clear hK K k9
          try simp only [Act.put, List.setIfInBounds_toArray, List.set_cons_zero, List.set_cons_succ, List.getElem_toArray, List.getElem_cons_zero, List.getElem_cons_succ]
          refine anyL_ready (rs := [8]) (by kernel_rfl) (by simp) ?_
          refine (AllL.cons rfl (fun K hK => ?_) AllL.nil)
          ·
           have f0 := H9.out.f 0
           have f1 := H9.out.f 1
           have f2 := H9.out.f 2
           have f3 := H9.out.f 3
           obtain ⟨c0, c1, c2, c3⟩ := H9.out.c
           go_simp
           obtain ⟨w_8_120, hwn⟩ : ∃ z, (((w_5_119.setCell ⟨w1d.heap.size, 0, none⟩ (.int .i64 las)).setCell ⟨w1d.heap.size, 1, none⟩ (.int .i64 lan)).setCell ⟨w1d.heap.size, 2, none⟩ (.string lax)).setCell ⟨w1d.heap.size, 3, none⟩ (.int .i64 lat) = z := ⟨_, rfl⟩
           have H9n := Lib.hid (show Four w_8_120 (w1d.heap.size) (.int .i64 las) (.int .i64 lan) (.string lax) (.int .i64 lat) 29 from by rw [← hwn]; exact four_set H9.out _ _ _ _)
           have H10n := Lib.hid (show Four w_8_120 (w_2_107.heap.size) (.int .i64 0) (.int .i64 0) (.string ⟨#[]⟩) (.int .i64 0) 29 from by rw [← hwn]; exact four_far H10.out (by have := hq.out; omega) _ _ _ _)
           have HXn := Lib.hid (And.intro (show Four w_8_120 p (.int .u8 rk) (.int .i64 rn) (.string rx) (.int .i64 rt) 23 from by rw [← hwn]; exact four_far HX.out.1 (by have := hl9.out; omega) _ _ _ _) (show Four w_8_120 (p + 1) (.int .u8 sk) (.int .i64 sn) (.string sx) (.int .i64 st) 23 from by rw [← hwn]; exact four_far HX.out.2 (by have := hl9.out; omega) _ _ _ _))
           have KWn := Lib.hid (show Below W.heap.size W w_8_120 from by rw [← hwn]; exact below_set KW.out (by have := HP.out; have := hl9.out; omega) _ _ _ _)
           clear H9 H10 HX KW
           have H9 := H9n
           have H10 := H10n
           have HX := HXn
           have KW := KWn
           clear H9n H10n HXn KWn
           try rw [hwn]
           refine hK.out _ _ HX.out (fun hHeld => ?_)
           clear hK K hwn f0 f1 f2 f3 c0 c1 c2 c3
           try simp only [Act.put, List.setIfInBounds_toArray, List.set_cons_zero, List.set_cons_succ, List.getElem_toArray, List.getElem_cons_zero, List.getElem_cons_succ]
           refine anyL_ready (rs := [9]) (by kernel_rfl) (by simp) ?_
           refine (AllL.last rfl (by kernel_rfl) (fun K hK => ?_) AllL.nil)
           ·
            have f0 := H10.out.f 0
            have f1 := H10.out.f 1
            have f2 := H10.out.f 2
            have f3 := H10.out.f 3
            obtain ⟨c0, c1, c2, c3⟩ := H10.out.c
            go_simp
            obtain ⟨w_9_121, hwn⟩ : ∃ z, (((w_8_120.setCell ⟨w_2_107.heap.size, 0, none⟩ (.int .i64 lbs)).setCell ⟨w_2_107.heap.size, 1, none⟩ (.int .i64 lbn)).setCell ⟨w_2_107.heap.size, 2, none⟩ (.string lbx)).setCell ⟨w_2_107.heap.size, 3, none⟩ (.int .i64 lbt) = z := ⟨_, rfl⟩
            have H10n := Lib.hid (show Four w_9_121 (w_2_107.heap.size) (.int .i64 lbs) (.int .i64 lbn) (.string lbx) (.int .i64 lbt) 29 from by rw [← hwn]; exact four_set H10.out _ _ _ _)
            have H9n := Lib.hid (show Four w_9_121 (w1d.heap.size) (.int .i64 las) (.int .i64 lan) (.string lax) (.int .i64 lat) 29 from by rw [← hwn]; exact four_far H9.out (by have := hq.out; omega) _ _ _ _)
            have HXn := Lib.hid (And.intro (show Four w_9_121 p (.int .u8 rk) (.int .i64 rn) (.string rx) (.int .i64 rt) 23 from by rw [← hwn]; exact four_far HX.out.1 (by have := hl10.out; omega) _ _ _ _) (show Four w_9_121 (p + 1) (.int .u8 sk) (.int .i64 sn) (.string sx) (.int .i64 st) 23 from by rw [← hwn]; exact four_far HX.out.2 (by have := hl10.out; omega) _ _ _ _))
            have KWn := Lib.hid (show Below W.heap.size W w_9_121 from by rw [← hwn]; exact below_set KW.out (by have := HP.out; have := hl10.out; omega) _ _ _ _)
            clear H9 H10 HX KW
            have H9 := H9n
            have H10 := H10n
            have HX := HXn
            have KW := KWn
            clear H9n H10n HXn KWn
            try rw [hwn]
            refine hK.out _ _ ?_
            clear hK K hwn f0 f1 f2 f3 c0 c1 c2 c3
            try simp only [Act.put, List.setIfInBounds_toArray, List.set_cons_zero, List.set_cons_succ, List.getElem_toArray, List.getElem_cons_zero, List.getElem_cons_succ]
            refine anyL_done (by kernel_rfl) ?_ _
            go_wp2_with fail
            go_meet
            exact ⟨_, _, rfl, rfl, H9.out, H10.out, HX.out.1, HX.out.2, KW.out⟩
      ·
       go_simp
       obtain ⟨w_7_122, hwn⟩ : ∃ z, w_1_106.alloc (.cells #[.int .i64 0, .int .i64 0, .string ⟨#[]⟩, .int .i64 0] 29) = z := ⟨_, rfl⟩
       have k9 : Bl w_1_106 w_7_122 := by rw [← hwn]; exact (Below.refl _ _).alloc (Nat.le_refl _) _
       have H10 := Lib.hid (show Four w_7_122 w_1_106.heap.size (.int .i64 0) (.int .i64 0) (.string ⟨#[]⟩) (.int .i64 0) 29 from by rw [← hwn]; exact Four.new w_1_106 _ _ _ _ _)
       have hl10 := Lib.hid (lt_at HX.out.2)
       have hq := Lib.hid (lt_at H9.out)
       have HXn := Lib.hid (And.intro (HX.out.1.on k9) (HX.out.2.on k9))
       have KWn := Lib.hid (KW.out.trans ((k9 : Bl w_1_106 w_7_122).mono KW.out.size))
       clear HX KW
       have HX := HXn
       have KW := KWn
       clear HXn KWn
       have H9n := Lib.hid (H9.out.on k9)
       clear H9
       have H9 := H9n
       clear H9n
       try rw [hwn]
       refine hK.out _ _ HX.out (fun hHeld => ?_)
       clear hK K k9 hwn
       try simp only [Act.put, List.setIfInBounds_toArray, List.set_cons_zero, List.set_cons_succ, List.getElem_toArray, List.getElem_cons_zero, List.getElem_cons_succ]
       refine anyL_ready (rs := [2]) (by kernel_rfl) (by simp) ?_
       refine (AllL.cons rfl (fun K hK => ?_) AllL.nil)
       ·
        go_simp
        refine (HLA _).mono ?_
        rintro e w_2_123 ⟨rfl, k9⟩
        have HXn := Lib.hid (And.intro (HX.out.1.on k9) (HX.out.2.on k9))
        have KWn := Lib.hid (KW.out.trans ((k9 : Bl w_7_122 w_2_123).mono KW.out.size))
        clear HX KW
        have HX := HXn
        have KW := KWn
        clear HXn KWn
        have H9n := Lib.hid (H9.out.on k9)
        clear H9
        have H9 := H9n
        clear H9n
        have H10n := Lib.hid (H10.out.on k9)
        clear H10
        have H10 := H10n
        clear H10n
        go_wp2_with fail
        refine hK.out _ _ HX.out (fun hHeld => ?_)
        clear hK K k9
        try simp only [Act.put, List.setIfInBounds_toArray, List.set_cons_zero, List.set_cons_succ, List.getElem_toArray, List.getElem_cons_zero, List.getElem_cons_succ]
        refine anyL_ready (rs := [4]) (by kernel_rfl) (by simp) ?_
        refine (AllL.cons rfl (fun K hK => ?_) AllL.nil)
        ·
         go_simp
         refine (HB _).mono ?_
         rintro e w_4_124 ⟨rfl, k9⟩
         have HXn := Lib.hid (And.intro (HX.out.1.on k9) (HX.out.2.on k9))
         have KWn := Lib.hid (KW.out.trans ((k9 : Bl w_2_123 w_4_124).mono KW.out.size))
         clear HX KW
         have HX := HXn
         have KW := KWn
         clear HXn KWn
         have H9n := Lib.hid (H9.out.on k9)
         clear H9
         have H9 := H9n
         clear H9n
         have H10n := Lib.hid (H10.out.on k9)
         clear H10
         have H10 := H10n
         clear H10n
         go_wp2_with fail
         refine hK.out _ _ HX.out (fun hHeld => ?_)
         clear hK K k9
         try simp only [Act.put, List.setIfInBounds_toArray, List.set_cons_zero, List.set_cons_succ, List.getElem_toArray, List.getElem_cons_zero, List.getElem_cons_succ]
         refine anyL_ready (rs := [5]) (by kernel_rfl) (by simp) ?_
         refine (AllL.cons rfl (fun K hK => ?_) AllL.nil)
         ·
          go_simp
          refine (HLB _).mono ?_
          rintro e w_5_125 ⟨rfl, k9⟩
          have HXn := Lib.hid (And.intro (HX.out.1.on k9) (HX.out.2.on k9))
          have KWn := Lib.hid (KW.out.trans ((k9 : Bl w_4_124 w_5_125).mono KW.out.size))
          clear HX KW
          have HX := HXn
          have KW := KWn
          clear HXn KWn
          have H9n := Lib.hid (H9.out.on k9)
          clear H9
          have H9 := H9n
          clear H9n
          have H10n := Lib.hid (H10.out.on k9)
          clear H10
          have H10 := H10n
          clear H10n
          go_wp2_with fail
          refine hK.out _ _ HX.out (fun hHeld => ?_)
          clear hK K k9
          try simp only [Act.put, List.setIfInBounds_toArray, List.set_cons_zero, List.set_cons_succ, List.getElem_toArray, List.getElem_cons_zero, List.getElem_cons_succ]
          refine anyL_ready (rs := [8]) (by kernel_rfl) (by simp) ?_
          refine (AllL.cons rfl (fun K hK => ?_) AllL.nil)
          ·
           have f0 := H9.out.f 0
           have f1 := H9.out.f 1
           have f2 := H9.out.f 2
           have f3 := H9.out.f 3
           obtain ⟨c0, c1, c2, c3⟩ := H9.out.c
           go_simp
           obtain ⟨w_8_126, hwn⟩ : ∃ z, (((w_5_125.setCell ⟨w1d.heap.size, 0, none⟩ (.int .i64 las)).setCell ⟨w1d.heap.size, 1, none⟩ (.int .i64 lan)).setCell ⟨w1d.heap.size, 2, none⟩ (.string lax)).setCell ⟨w1d.heap.size, 3, none⟩ (.int .i64 lat) = z := ⟨_, rfl⟩
           have H9n := Lib.hid (show Four w_8_126 (w1d.heap.size) (.int .i64 las) (.int .i64 lan) (.string lax) (.int .i64 lat) 29 from by rw [← hwn]; exact four_set H9.out _ _ _ _)
           have H10n := Lib.hid (show Four w_8_126 (w_1_106.heap.size) (.int .i64 0) (.int .i64 0) (.string ⟨#[]⟩) (.int .i64 0) 29 from by rw [← hwn]; exact four_far H10.out (by have := hq.out; omega) _ _ _ _)
           have HXn := Lib.hid (And.intro (show Four w_8_126 p (.int .u8 rk) (.int .i64 rn) (.string rx) (.int .i64 rt) 23 from by rw [← hwn]; exact four_far HX.out.1 (by have := hl9.out; omega) _ _ _ _) (show Four w_8_126 (p + 1) (.int .u8 sk) (.int .i64 sn) (.string sx) (.int .i64 st) 23 from by rw [← hwn]; exact four_far HX.out.2 (by have := hl9.out; omega) _ _ _ _))
           have KWn := Lib.hid (show Below W.heap.size W w_8_126 from by rw [← hwn]; exact below_set KW.out (by have := HP.out; have := hl9.out; omega) _ _ _ _)
           clear H9 H10 HX KW
           have H9 := H9n
           have H10 := H10n
           have HX := HXn
           have KW := KWn
           clear H9n H10n HXn KWn
           try rw [hwn]
           refine hK.out _ _ HX.out (fun hHeld => ?_)
           clear hK K hwn f0 f1 f2 f3 c0 c1 c2 c3
           try simp only [Act.put, List.setIfInBounds_toArray, List.set_cons_zero, List.set_cons_succ, List.getElem_toArray, List.getElem_cons_zero, List.getElem_cons_succ]
           refine anyL_ready (rs := [9]) (by kernel_rfl) (by simp) ?_
           refine (AllL.last rfl (by kernel_rfl) (fun K hK => ?_) AllL.nil)
           ·
            have f0 := H10.out.f 0
            have f1 := H10.out.f 1
            have f2 := H10.out.f 2
            have f3 := H10.out.f 3
            obtain ⟨c0, c1, c2, c3⟩ := H10.out.c
            go_simp
            obtain ⟨w_9_127, hwn⟩ : ∃ z, (((w_8_126.setCell ⟨w_1_106.heap.size, 0, none⟩ (.int .i64 lbs)).setCell ⟨w_1_106.heap.size, 1, none⟩ (.int .i64 lbn)).setCell ⟨w_1_106.heap.size, 2, none⟩ (.string lbx)).setCell ⟨w_1_106.heap.size, 3, none⟩ (.int .i64 lbt) = z := ⟨_, rfl⟩
            have H10n := Lib.hid (show Four w_9_127 (w_1_106.heap.size) (.int .i64 lbs) (.int .i64 lbn) (.string lbx) (.int .i64 lbt) 29 from by rw [← hwn]; exact four_set H10.out _ _ _ _)
            have H9n := Lib.hid (show Four w_9_127 (w1d.heap.size) (.int .i64 las) (.int .i64 lan) (.string lax) (.int .i64 lat) 29 from by rw [← hwn]; exact four_far H9.out (by have := hq.out; omega) _ _ _ _)
            have HXn := Lib.hid (And.intro (show Four w_9_127 p (.int .u8 rk) (.int .i64 rn) (.string rx) (.int .i64 rt) 23 from by rw [← hwn]; exact four_far HX.out.1 (by have := hl10.out; omega) _ _ _ _) (show Four w_9_127 (p + 1) (.int .u8 sk) (.int .i64 sn) (.string sx) (.int .i64 st) 23 from by rw [← hwn]; exact four_far HX.out.2 (by have := hl10.out; omega) _ _ _ _))
            have KWn := Lib.hid (show Below W.heap.size W w_9_127 from by rw [← hwn]; exact below_set KW.out (by have := HP.out; have := hl10.out; omega) _ _ _ _)
            clear H9 H10 HX KW
            have H9 := H9n
            have H10 := H10n
            have HX := HXn
            have KW := KWn
            clear H9n H10n HXn KWn
            try rw [hwn]
            refine hK.out _ _ ?_
            clear hK K hwn f0 f1 f2 f3 c0 c1 c2 c3
            try simp only [Act.put, List.setIfInBounds_toArray, List.set_cons_zero, List.set_cons_succ, List.getElem_toArray, List.getElem_cons_zero, List.getElem_cons_succ]
            refine anyL_done (by kernel_rfl) ?_ _
            go_wp2_with fail
            go_meet
            exact ⟨_, _, rfl, rfl, H9.out, H10.out, HX.out.1, HX.out.2, KW.out⟩
     ·
      go_simp
      obtain ⟨w_7_128, hwn⟩ : ∃ z, w_6_105.alloc (.cells #[.int .i64 0, .int .i64 0, .string ⟨#[]⟩, .int .i64 0] 29) = z := ⟨_, rfl⟩
      have k9 : Bl w_6_105 w_7_128 := by rw [← hwn]; exact (Below.refl _ _).alloc (Nat.le_refl _) _
      have H10 := Lib.hid (show Four w_7_128 w_6_105.heap.size (.int .i64 0) (.int .i64 0) (.string ⟨#[]⟩) (.int .i64 0) 29 from by rw [← hwn]; exact Four.new w_6_105 _ _ _ _ _)
      have hl10 := Lib.hid (lt_at HX.out.2)
      have hq := Lib.hid (lt_at H9.out)
      have HXn := Lib.hid (And.intro (HX.out.1.on k9) (HX.out.2.on k9))
      have KWn := Lib.hid (KW.out.trans ((k9 : Bl w_6_105 w_7_128).mono KW.out.size))
      clear HX KW
      have HX := HXn
      have KW := KWn
      clear HXn KWn
      have H9n := Lib.hid (H9.out.on k9)
      clear H9
      have H9 := H9n
      clear H9n
      try rw [hwn]
      refine hK.out _ _ HX.out (fun hHeld => ?_)
      clear hK K k9 hwn
      try simp only [Act.put, List.setIfInBounds_toArray, List.set_cons_zero, List.set_cons_succ, List.getElem_toArray, List.getElem_cons_zero, List.getElem_cons_succ]
      refine anyL_ready (rs := [1]) (by kernel_rfl) (by simp) ?_
      refine (AllL.cons rfl (fun K hK => ?_) AllL.nil)
      ·
       go_simp
       refine (HA _).mono ?_
       rintro e w_1_129 ⟨rfl, k9⟩
       have HXn := Lib.hid (And.intro (HX.out.1.on k9) (HX.out.2.on k9))
       have KWn := Lib.hid (KW.out.trans ((k9 : Bl w_7_128 w_1_129).mono KW.out.size))
       clear HX KW
       have HX := HXn
       have KW := KWn
       clear HXn KWn
       have H9n := Lib.hid (H9.out.on k9)
       clear H9
       have H9 := H9n
       clear H9n
       have H10n := Lib.hid (H10.out.on k9)
       clear H10
       have H10 := H10n
       clear H10n
       go_wp2_with fail
       refine hK.out _ _ HX.out (fun hHeld => ?_)
       clear hK K k9
       try simp only [Act.put, List.setIfInBounds_toArray, List.set_cons_zero, List.set_cons_succ, List.getElem_toArray, List.getElem_cons_zero, List.getElem_cons_succ]
       refine anyL_ready (rs := [2]) (by kernel_rfl) (by simp) ?_
       refine (AllL.cons rfl (fun K hK => ?_) AllL.nil)
       ·
        go_simp
        refine (HLA _).mono ?_
        rintro e w_2_130 ⟨rfl, k9⟩
        have HXn := Lib.hid (And.intro (HX.out.1.on k9) (HX.out.2.on k9))
        have KWn := Lib.hid (KW.out.trans ((k9 : Bl w_1_129 w_2_130).mono KW.out.size))
        clear HX KW
        have HX := HXn
        have KW := KWn
        clear HXn KWn
        have H9n := Lib.hid (H9.out.on k9)
        clear H9
        have H9 := H9n
        clear H9n
        have H10n := Lib.hid (H10.out.on k9)
        clear H10
        have H10 := H10n
        clear H10n
        go_wp2_with fail
        refine hK.out _ _ HX.out (fun hHeld => ?_)
        clear hK K k9
        try simp only [Act.put, List.setIfInBounds_toArray, List.set_cons_zero, List.set_cons_succ, List.getElem_toArray, List.getElem_cons_zero, List.getElem_cons_succ]
        refine anyL_ready (rs := [4]) (by kernel_rfl) (by simp) ?_
        refine (AllL.cons rfl (fun K hK => ?_) AllL.nil)
        ·
         go_simp
         refine (HB _).mono ?_
         rintro e w_4_131 ⟨rfl, k9⟩
         have HXn := Lib.hid (And.intro (HX.out.1.on k9) (HX.out.2.on k9))
         have KWn := Lib.hid (KW.out.trans ((k9 : Bl w_2_130 w_4_131).mono KW.out.size))
         clear HX KW
         have HX := HXn
         have KW := KWn
         clear HXn KWn
         have H9n := Lib.hid (H9.out.on k9)
         clear H9
         have H9 := H9n
         clear H9n
         have H10n := Lib.hid (H10.out.on k9)
         clear H10
         have H10 := H10n
         clear H10n
         go_wp2_with fail
         refine hK.out _ _ HX.out (fun hHeld => ?_)
         clear hK K k9
         try simp only [Act.put, List.setIfInBounds_toArray, List.set_cons_zero, List.set_cons_succ, List.getElem_toArray, List.getElem_cons_zero, List.getElem_cons_succ]
         refine anyL_ready (rs := [5]) (by kernel_rfl) (by simp) ?_
         refine (AllL.cons rfl (fun K hK => ?_) AllL.nil)
         ·
          go_simp
          refine (HLB _).mono ?_
          rintro e w_5_132 ⟨rfl, k9⟩
          have HXn := Lib.hid (And.intro (HX.out.1.on k9) (HX.out.2.on k9))
          have KWn := Lib.hid (KW.out.trans ((k9 : Bl w_4_131 w_5_132).mono KW.out.size))
          clear HX KW
          have HX := HXn
          have KW := KWn
          clear HXn KWn
          have H9n := Lib.hid (H9.out.on k9)
          clear H9
          have H9 := H9n
          clear H9n
          have H10n := Lib.hid (H10.out.on k9)
          clear H10
          have H10 := H10n
          clear H10n
          go_wp2_with fail
          refine hK.out _ _ HX.out (fun hHeld => ?_)
          clear hK K k9
          try simp only [Act.put, List.setIfInBounds_toArray, List.set_cons_zero, List.set_cons_succ, List.getElem_toArray, List.getElem_cons_zero, List.getElem_cons_succ]
          refine anyL_ready (rs := [8]) (by kernel_rfl) (by simp) ?_
          refine (AllL.cons rfl (fun K hK => ?_) AllL.nil)
          ·
           have f0 := H9.out.f 0
           have f1 := H9.out.f 1
           have f2 := H9.out.f 2
           have f3 := H9.out.f 3
           obtain ⟨c0, c1, c2, c3⟩ := H9.out.c
           go_simp
           obtain ⟨w_8_133, hwn⟩ : ∃ z, (((w_5_132.setCell ⟨w1d.heap.size, 0, none⟩ (.int .i64 las)).setCell ⟨w1d.heap.size, 1, none⟩ (.int .i64 lan)).setCell ⟨w1d.heap.size, 2, none⟩ (.string lax)).setCell ⟨w1d.heap.size, 3, none⟩ (.int .i64 lat) = z := ⟨_, rfl⟩
           have H9n := Lib.hid (show Four w_8_133 (w1d.heap.size) (.int .i64 las) (.int .i64 lan) (.string lax) (.int .i64 lat) 29 from by rw [← hwn]; exact four_set H9.out _ _ _ _)
           have H10n := Lib.hid (show Four w_8_133 (w_6_105.heap.size) (.int .i64 0) (.int .i64 0) (.string ⟨#[]⟩) (.int .i64 0) 29 from by rw [← hwn]; exact four_far H10.out (by have := hq.out; omega) _ _ _ _)
           have HXn := Lib.hid (And.intro (show Four w_8_133 p (.int .u8 rk) (.int .i64 rn) (.string rx) (.int .i64 rt) 23 from by rw [← hwn]; exact four_far HX.out.1 (by have := hl9.out; omega) _ _ _ _) (show Four w_8_133 (p + 1) (.int .u8 sk) (.int .i64 sn) (.string sx) (.int .i64 st) 23 from by rw [← hwn]; exact four_far HX.out.2 (by have := hl9.out; omega) _ _ _ _))
           have KWn := Lib.hid (show Below W.heap.size W w_8_133 from by rw [← hwn]; exact below_set KW.out (by have := HP.out; have := hl9.out; omega) _ _ _ _)
           clear H9 H10 HX KW
           have H9 := H9n
           have H10 := H10n
           have HX := HXn
           have KW := KWn
           clear H9n H10n HXn KWn
           try rw [hwn]
           refine hK.out _ _ HX.out (fun hHeld => ?_)
           clear hK K hwn f0 f1 f2 f3 c0 c1 c2 c3
           try simp only [Act.put, List.setIfInBounds_toArray, List.set_cons_zero, List.set_cons_succ, List.getElem_toArray, List.getElem_cons_zero, List.getElem_cons_succ]
           refine anyL_ready (rs := [9]) (by kernel_rfl) (by simp) ?_
           refine (AllL.last rfl (by kernel_rfl) (fun K hK => ?_) AllL.nil)
           ·
            have f0 := H10.out.f 0
            have f1 := H10.out.f 1
            have f2 := H10.out.f 2
            have f3 := H10.out.f 3
            obtain ⟨c0, c1, c2, c3⟩ := H10.out.c
            go_simp
            obtain ⟨w_9_134, hwn⟩ : ∃ z, (((w_8_133.setCell ⟨w_6_105.heap.size, 0, none⟩ (.int .i64 lbs)).setCell ⟨w_6_105.heap.size, 1, none⟩ (.int .i64 lbn)).setCell ⟨w_6_105.heap.size, 2, none⟩ (.string lbx)).setCell ⟨w_6_105.heap.size, 3, none⟩ (.int .i64 lbt) = z := ⟨_, rfl⟩
            have H10n := Lib.hid (show Four w_9_134 (w_6_105.heap.size) (.int .i64 lbs) (.int .i64 lbn) (.string lbx) (.int .i64 lbt) 29 from by rw [← hwn]; exact four_set H10.out _ _ _ _)
            have H9n := Lib.hid (show Four w_9_134 (w1d.heap.size) (.int .i64 las) (.int .i64 lan) (.string lax) (.int .i64 lat) 29 from by rw [← hwn]; exact four_far H9.out (by have := hq.out; omega) _ _ _ _)
            have HXn := Lib.hid (And.intro (show Four w_9_134 p (.int .u8 rk) (.int .i64 rn) (.string rx) (.int .i64 rt) 23 from by rw [← hwn]; exact four_far HX.out.1 (by have := hl10.out; omega) _ _ _ _) (show Four w_9_134 (p + 1) (.int .u8 sk) (.int .i64 sn) (.string sx) (.int .i64 st) 23 from by rw [← hwn]; exact four_far HX.out.2 (by have := hl10.out; omega) _ _ _ _))
            have KWn := Lib.hid (show Below W.heap.size W w_9_134 from by rw [← hwn]; exact below_set KW.out (by have := HP.out; have := hl10.out; omega) _ _ _ _)
            clear H9 H10 HX KW
            have H9 := H9n
            have H10 := H10n
            have HX := HXn
            have KW := KWn
            clear H9n H10n HXn KWn
            try rw [hwn]
            refine hK.out _ _ ?_
            clear hK K hwn f0 f1 f2 f3 c0 c1 c2 c3
            try simp only [Act.put, List.setIfInBounds_toArray, List.set_cons_zero, List.set_cons_succ, List.getElem_toArray, List.getElem_cons_zero, List.getElem_cons_succ]
            refine anyL_done (by kernel_rfl) ?_ _
            go_wp2_with fail
            go_meet
            exact ⟨_, _, rfl, rfl, H9.out, H10.out, HX.out.1, HX.out.2, KW.out⟩
    ·
     go_simp
     obtain ⟨w_7_135, hwn⟩ : ∃ z, w1d.alloc (.cells #[.int .i64 0, .int .i64 0, .string ⟨#[]⟩, .int .i64 0] 29) = z := ⟨_, rfl⟩
     have k9 : Bl w1d w_7_135 := by rw [← hwn]; exact (Below.refl _ _).alloc (Nat.le_refl _) _
     have H10 := Lib.hid (show Four w_7_135 w1d.heap.size (.int .i64 0) (.int .i64 0) (.string ⟨#[]⟩) (.int .i64 0) 29 from by rw [← hwn]; exact Four.new w1d _ _ _ _ _)
     have hl10 := Lib.hid (lt_at HX.out.2)
     
     have HXn := Lib.hid (And.intro (HX.out.1.on k9) (HX.out.2.on k9))
     have KWn := Lib.hid (KW.out.trans ((k9 : Bl w1d w_7_135).mono KW.out.size))
     clear HX KW
     have HX := HXn
     have KW := KWn
     clear HXn KWn
     try rw [hwn]
     refine hK.out _ _ HX.out (fun hHeld => ?_)
     clear hK K k9 hwn
     try simp only [Act.put, List.setIfInBounds_toArray, List.set_cons_zero, List.set_cons_succ, List.getElem_toArray, List.getElem_cons_zero, List.getElem_cons_succ]
     refine anyL_ready (rs := [1, 6]) (by kernel_rfl) (by simp) ?_
     refine (AllL.cons rfl (fun K hK => ?_) (AllL.cons rfl (fun K hK => ?_) AllL.nil))
     ·
      go_simp
      refine (HA _).mono ?_
      rintro e w_1_136 ⟨rfl, k9⟩
      have HXn := Lib.hid (And.intro (HX.out.1.on k9) (HX.out.2.on k9))
      have KWn := Lib.hid (KW.out.trans ((k9 : Bl w_7_135 w_1_136).mono KW.out.size))
      clear HX KW
      have HX := HXn
      have KW := KWn
      clear HXn KWn
      have H10n := Lib.hid (H10.out.on k9)
      clear H10
      have H10 := H10n
      clear H10n
      go_wp2_with fail
      refine hK.out _ _ HX.out (fun hHeld => ?_)
      clear hK K k9
      try simp only [Act.put, List.setIfInBounds_toArray, List.set_cons_zero, List.set_cons_succ, List.getElem_toArray, List.getElem_cons_zero, List.getElem_cons_succ]
      refine anyL_ready (rs := [2, 6]) (by kernel_rfl) (by simp) ?_
      refine (AllL.cons rfl (fun K hK => ?_) (AllL.cons rfl (fun K hK => ?_) AllL.nil))
      ·
       go_simp
       refine (HLA _).mono ?_
       rintro e w_2_137 ⟨rfl, k9⟩
       have HXn := Lib.hid (And.intro (HX.out.1.on k9) (HX.out.2.on k9))
       have KWn := Lib.hid (KW.out.trans ((k9 : Bl w_1_136 w_2_137).mono KW.out.size))
       clear HX KW
       have HX := HXn
       have KW := KWn
       clear HXn KWn
       have H10n := Lib.hid (H10.out.on k9)
       clear H10
       have H10 := H10n
       clear H10n
       go_wp2_with fail
       refine hK.out _ _ HX.out (fun hHeld => ?_)
       clear hK K k9
       try simp only [Act.put, List.setIfInBounds_toArray, List.set_cons_zero, List.set_cons_succ, List.getElem_toArray, List.getElem_cons_zero, List.getElem_cons_succ]
       refine anyL_ready (rs := [4, 6]) (by kernel_rfl) (by simp) ?_
       refine (AllL.cons rfl (fun K hK => ?_) (AllL.cons rfl (fun K hK => ?_) AllL.nil))
       ·
        go_simp
        refine (HB _).mono ?_
        rintro e w_4_138 ⟨rfl, k9⟩
        have HXn := Lib.hid (And.intro (HX.out.1.on k9) (HX.out.2.on k9))
        have KWn := Lib.hid (KW.out.trans ((k9 : Bl w_2_137 w_4_138).mono KW.out.size))
        clear HX KW
        have HX := HXn
        have KW := KWn
        clear HXn KWn
        have H10n := Lib.hid (H10.out.on k9)
        clear H10
        have H10 := H10n
        clear H10n
        go_wp2_with fail
        refine hK.out _ _ HX.out (fun hHeld => ?_)
        clear hK K k9
        try simp only [Act.put, List.setIfInBounds_toArray, List.set_cons_zero, List.set_cons_succ, List.getElem_toArray, List.getElem_cons_zero, List.getElem_cons_succ]
        refine anyL_ready (rs := [5, 6]) (by kernel_rfl) (by simp) ?_
        refine (AllL.cons rfl (fun K hK => ?_) (AllL.cons rfl (fun K hK => ?_) AllL.nil))
        ·
         go_simp
         refine (HLB _).mono ?_
         rintro e w_5_139 ⟨rfl, k9⟩
         have HXn := Lib.hid (And.intro (HX.out.1.on k9) (HX.out.2.on k9))
         have KWn := Lib.hid (KW.out.trans ((k9 : Bl w_4_138 w_5_139).mono KW.out.size))
         clear HX KW
         have HX := HXn
         have KW := KWn
         clear HXn KWn
         have H10n := Lib.hid (H10.out.on k9)
         clear H10
         have H10 := H10n
         clear H10n
         go_wp2_with fail
         refine hK.out _ _ HX.out (fun hHeld => ?_)
         clear hK K k9
         try simp only [Act.put, List.setIfInBounds_toArray, List.set_cons_zero, List.set_cons_succ, List.getElem_toArray, List.getElem_cons_zero, List.getElem_cons_succ]
         refine anyL_ready (rs := [6]) (by kernel_rfl) (by simp) ?_
         refine (AllL.cons rfl (fun K hK => ?_) AllL.nil)
         ·
          go_simp
          obtain ⟨w_6_140, hwn⟩ : ∃ z, w_5_139.alloc (.cells #[.int .i64 0, .int .i64 0, .string ⟨#[]⟩, .int .i64 0] 29) = z := ⟨_, rfl⟩
          have k9 : Bl w_5_139 w_6_140 := by rw [← hwn]; exact (Below.refl _ _).alloc (Nat.le_refl _) _
          have H9 := Lib.hid (show Four w_6_140 w_5_139.heap.size (.int .i64 0) (.int .i64 0) (.string ⟨#[]⟩) (.int .i64 0) 29 from by rw [← hwn]; exact Four.new w_5_139 _ _ _ _ _)
          have hl9 := Lib.hid (lt_at HX.out.2)
          have hq := Lib.hid (lt_at H10.out)
          have HXn := Lib.hid (And.intro (HX.out.1.on k9) (HX.out.2.on k9))
          have KWn := Lib.hid (KW.out.trans ((k9 : Bl w_5_139 w_6_140).mono KW.out.size))
          clear HX KW
          have HX := HXn
          have KW := KWn
          clear HXn KWn
          have H10n := Lib.hid (H10.out.on k9)
          clear H10
          have H10 := H10n
          clear H10n
          try rw [hwn]
          refine hK.out _ _ HX.out (fun hHeld => ?_)
          clear hK K k9 hwn
          try simp only [Act.put, List.setIfInBounds_toArray, List.set_cons_zero, List.set_cons_succ, List.getElem_toArray, List.getElem_cons_zero, List.getElem_cons_succ]
          refine anyL_ready (rs := [8]) (by kernel_rfl) (by simp) ?_
          refine (AllL.cons rfl (fun K hK => ?_) AllL.nil)
          ·
           have f0 := H9.out.f 0
           have f1 := H9.out.f 1
           have f2 := H9.out.f 2
           have f3 := H9.out.f 3
           obtain ⟨c0, c1, c2, c3⟩ := H9.out.c
           go_simp
           obtain ⟨w_8_141, hwn⟩ : ∃ z, (((w_6_140.setCell ⟨w_5_139.heap.size, 0, none⟩ (.int .i64 las)).setCell ⟨w_5_139.heap.size, 1, none⟩ (.int .i64 lan)).setCell ⟨w_5_139.heap.size, 2, none⟩ (.string lax)).setCell ⟨w_5_139.heap.size, 3, none⟩ (.int .i64 lat) = z := ⟨_, rfl⟩
           have H9n := Lib.hid (show Four w_8_141 (w_5_139.heap.size) (.int .i64 las) (.int .i64 lan) (.string lax) (.int .i64 lat) 29 from by rw [← hwn]; exact four_set H9.out _ _ _ _)
           have H10n := Lib.hid (show Four w_8_141 (w1d.heap.size) (.int .i64 0) (.int .i64 0) (.string ⟨#[]⟩) (.int .i64 0) 29 from by rw [← hwn]; exact four_far H10.out (by have := hq.out; omega) _ _ _ _)
           have HXn := Lib.hid (And.intro (show Four w_8_141 p (.int .u8 rk) (.int .i64 rn) (.string rx) (.int .i64 rt) 23 from by rw [← hwn]; exact four_far HX.out.1 (by have := hl9.out; omega) _ _ _ _) (show Four w_8_141 (p + 1) (.int .u8 sk) (.int .i64 sn) (.string sx) (.int .i64 st) 23 from by rw [← hwn]; exact four_far HX.out.2 (by have := hl9.out; omega) _ _ _ _))
           have KWn := Lib.hid (show Below W.heap.size W w_8_141 from by rw [← hwn]; exact below_set KW.out (by have := HP.out; have := hl9.out; omega) _ _ _ _)
           clear H9 H10 HX KW
           have H9 := H9n
           have H10 := H10n
           have HX := HXn
           have KW := KWn
           clear H9n H10n HXn KWn
           try rw [hwn]
           refine hK.out _ _ HX.out (fun hHeld => ?_)
           clear hK K hwn f0 f1 f2 f3 c0 c1 c2 c3
           try simp only [Act.put, List.setIfInBounds_toArray, List.set_cons_zero, List.set_cons_succ, List.getElem_toArray, List.getElem_cons_zero, List.getElem_cons_succ]
           refine anyL_ready (rs := [9]) (by kernel_rfl) (by simp) ?_
           refine (AllL.last rfl (by kernel_rfl) (fun K hK => ?_) AllL.nil)
           ·
            have f0 := H10.out.f 0
            have f1 := H10.out.f 1
            have f2 := H10.out.f 2
            have f3 := H10.out.f 3
            obtain ⟨c0, c1, c2, c3⟩ := H10.out.c
            go_simp
            obtain ⟨w_9_142, hwn⟩ : ∃ z, (((w_8_141.setCell ⟨w1d.heap.size, 0, none⟩ (.int .i64 lbs)).setCell ⟨w1d.heap.size, 1, none⟩ (.int .i64 lbn)).setCell ⟨w1d.heap.size, 2, none⟩ (.string lbx)).setCell ⟨w1d.heap.size, 3, none⟩ (.int .i64 lbt) = z := ⟨_, rfl⟩
            have H10n := Lib.hid (show Four w_9_142 (w1d.heap.size) (.int .i64 lbs) (.int .i64 lbn) (.string lbx) (.int .i64 lbt) 29 from by rw [← hwn]; exact four_set H10.out _ _ _ _)
            have H9n := Lib.hid (show Four w_9_142 (w_5_139.heap.size) (.int .i64 las) (.int .i64 lan) (.string lax) (.int .i64 lat) 29 from by rw [← hwn]; exact four_far H9.out (by have := hq.out; omega) _ _ _ _)
            have HXn := Lib.hid (And.intro (show Four w_9_142 p (.int .u8 rk) (.int .i64 rn) (.string rx) (.int .i64 rt) 23 from by rw [← hwn]; exact four_far HX.out.1 (by have := hl10.out; omega) _ _ _ _) (show Four w_9_142 (p + 1) (.int .u8 sk) (.int .i64 sn) (.string sx) (.int .i64 st) 23 from by rw [← hwn]; exact four_far HX.out.2 (by have := hl10.out; omega) _ _ _ _))
            have KWn := Lib.hid (show Below W.heap.size W w_9_142 from by rw [← hwn]; exact below_set KW.out (by have := HP.out; have := hl10.out; omega) _ _ _ _)
            clear H9 H10 HX KW
            have H9 := H9n
            have H10 := H10n
            have HX := HXn
            have KW := KWn
            clear H9n H10n HXn KWn
            try rw [hwn]
            refine hK.out _ _ ?_
            clear hK K hwn f0 f1 f2 f3 c0 c1 c2 c3
            try simp only [Act.put, List.setIfInBounds_toArray, List.set_cons_zero, List.set_cons_succ, List.getElem_toArray, List.getElem_cons_zero, List.getElem_cons_succ]
            refine anyL_done (by kernel_rfl) ?_ _
            go_wp2_with fail
            go_meet
            exact ⟨_, _, rfl, rfl, H9.out, H10.out, HX.out.1, HX.out.2, KW.out⟩
        ·
         go_simp
         obtain ⟨w_6_143, hwn⟩ : ∃ z, w_4_138.alloc (.cells #[.int .i64 0, .int .i64 0, .string ⟨#[]⟩, .int .i64 0] 29) = z := ⟨_, rfl⟩
         have k9 : Bl w_4_138 w_6_143 := by rw [← hwn]; exact (Below.refl _ _).alloc (Nat.le_refl _) _
         have H9 := Lib.hid (show Four w_6_143 w_4_138.heap.size (.int .i64 0) (.int .i64 0) (.string ⟨#[]⟩) (.int .i64 0) 29 from by rw [← hwn]; exact Four.new w_4_138 _ _ _ _ _)
         have hl9 := Lib.hid (lt_at HX.out.2)
         have hq := Lib.hid (lt_at H10.out)
         have HXn := Lib.hid (And.intro (HX.out.1.on k9) (HX.out.2.on k9))
         have KWn := Lib.hid (KW.out.trans ((k9 : Bl w_4_138 w_6_143).mono KW.out.size))
         clear HX KW
         have HX := HXn
         have KW := KWn
         clear HXn KWn
         have H10n := Lib.hid (H10.out.on k9)
         clear H10
         have H10 := H10n
         clear H10n
         try rw [hwn]
         refine hK.out _ _ HX.out (fun hHeld => ?_)
         clear hK K k9 hwn
         try simp only [Act.put, List.setIfInBounds_toArray, List.set_cons_zero, List.set_cons_succ, List.getElem_toArray, List.getElem_cons_zero, List.getElem_cons_succ]
         refine anyL_ready (rs := [5]) (by kernel_rfl) (by simp) ?_
         refine (AllL.cons rfl (fun K hK => ?_) AllL.nil)
         ·
          go_simp
          refine (HLB _).mono ?_
          rintro e w_5_144 ⟨rfl, k9⟩
          have HXn := Lib.hid (And.intro (HX.out.1.on k9) (HX.out.2.on k9))
          have KWn := Lib.hid (KW.out.trans ((k9 : Bl w_6_143 w_5_144).mono KW.out.size))
          clear HX KW
          have HX := HXn
          have KW := KWn
          clear HXn KWn
          have H10n := Lib.hid (H10.out.on k9)
          clear H10
          have H10 := H10n
          clear H10n
          have H9n := Lib.hid (H9.out.on k9)
          clear H9
          have H9 := H9n
          clear H9n
          go_wp2_with fail
          refine hK.out _ _ HX.out (fun hHeld => ?_)
          clear hK K k9
          try simp only [Act.put, List.setIfInBounds_toArray, List.set_cons_zero, List.set_cons_succ, List.getElem_toArray, List.getElem_cons_zero, List.getElem_cons_succ]
          refine anyL_ready (rs := [8]) (by kernel_rfl) (by simp) ?_
          refine (AllL.cons rfl (fun K hK => ?_) AllL.nil)
          ·
           have f0 := H9.out.f 0
           have f1 := H9.out.f 1
           have f2 := H9.out.f 2
           have f3 := H9.out.f 3
           obtain ⟨c0, c1, c2, c3⟩ := H9.out.c
           go_simp
           obtain ⟨w_8_145, hwn⟩ : ∃ z, (((w_5_144.setCell ⟨w_4_138.heap.size, 0, none⟩ (.int .i64 las)).setCell ⟨w_4_138.heap.size, 1, none⟩ (.int .i64 lan)).setCell ⟨w_4_138.heap.size, 2, none⟩ (.string lax)).setCell ⟨w_4_138.heap.size, 3, none⟩ (.int .i64 lat) = z := ⟨_, rfl⟩
           have H9n := Lib.hid (show Four w_8_145 (w_4_138.heap.size) (.int .i64 las) (.int .i64 lan) (.string lax) (.int .i64 lat) 29 from by rw [← hwn]; exact four_set H9.out _ _ _ _)
           have H10n := Lib.hid (show Four w_8_145 (w1d.heap.size) (.int .i64 0) (.int .i64 0) (.string ⟨#[]⟩) (.int .i64 0) 29 from by rw [← hwn]; exact four_far H10.out (by have := hq.out; omega) _ _ _ _)
           have HXn := Lib.hid (And.intro (show Four w_8_145 p (.int .u8 rk) (.int .i64 rn) (.string rx) (.int .i64 rt) 23 from by rw [← hwn]; exact four_far HX.out.1 (by have := hl9.out; omega) _ _ _ _) (show Four w_8_145 (p + 1) (.int .u8 sk) (.int .i64 sn) (.string sx) (.int .i64 st) 23 from by rw [← hwn]; exact four_far HX.out.2 (by have := hl9.out; omega) _ _ _ _))
           have KWn := Lib.hid (show Below W.heap.size W w_8_145 from by rw [← hwn]; exact below_set KW.out (by have := HP.out; have := hl9.out; omega) _ _ _ _)
           clear H9 H10 HX KW
           have H9 := H9n
           have H10 := H10n
           have HX := HXn
           have KW := KWn
           clear H9n H10n HXn KWn
           try rw [hwn]
           refine hK.out _ _ HX.out (fun hHeld => ?_)
           clear hK K hwn f0 f1 f2 f3 c0 c1 c2 c3
           try simp only [Act.put, List.setIfInBounds_toArray, List.set_cons_zero, List.set_cons_succ, List.getElem_toArray, List.getElem_cons_zero, List.getElem_cons_succ]
           refine anyL_ready (rs := [9]) (by kernel_rfl) (by simp) ?_
           refine (AllL.last rfl (by kernel_rfl) (fun K hK => ?_) AllL.nil)
           ·
            have f0 := H10.out.f 0
            have f1 := H10.out.f 1
            have f2 := H10.out.f 2
            have f3 := H10.out.f 3
            obtain ⟨c0, c1, c2, c3⟩ := H10.out.c
            go_simp
            obtain ⟨w_9_146, hwn⟩ : ∃ z, (((w_8_145.setCell ⟨w1d.heap.size, 0, none⟩ (.int .i64 lbs)).setCell ⟨w1d.heap.size, 1, none⟩ (.int .i64 lbn)).setCell ⟨w1d.heap.size, 2, none⟩ (.string lbx)).setCell ⟨w1d.heap.size, 3, none⟩ (.int .i64 lbt) = z := ⟨_, rfl⟩
            have H10n := Lib.hid (show Four w_9_146 (w1d.heap.size) (.int .i64 lbs) (.int .i64 lbn) (.string lbx) (.int .i64 lbt) 29 from by rw [← hwn]; exact four_set H10.out _ _ _ _)
            have H9n := Lib.hid (show Four w_9_146 (w_4_138.heap.size) (.int .i64 las) (.int .i64 lan) (.string lax) (.int .i64 lat) 29 from by rw [← hwn]; exact four_far H9.out (by have := hq.out; omega) _ _ _ _)
            have HXn := Lib.hid (And.intro (show Four w_9_146 p (.int .u8 rk) (.int .i64 rn) (.string rx) (.int .i64 rt) 23 from by rw [← hwn]; exact four_far HX.out.1 (by have := hl10.out; omega) _ _ _ _) (show Four w_9_146 (p + 1) (.int .u8 sk) (.int .i64 sn) (.string sx) (.int .i64 st) 23 from by rw [← hwn]; exact four_far HX.out.2 (by have := hl10.out; omega) _ _ _ _))
            have KWn := Lib.hid (show Below W.heap.size W w_9_146 from by rw [← hwn]; exact below_set KW.out (by have := HP.out; have := hl10.out; omega) _ _ _ _)
            clear H9 H10 HX KW
            have H9 := H9n
            have H10 := H10n
            have HX := HXn
            have KW := KWn
            clear H9n H10n HXn KWn
            try rw [hwn]
            refine hK.out _ _ ?_
            clear hK K hwn f0 f1 f2 f3 c0 c1 c2 c3
            try simp only [Act.put, List.setIfInBounds_toArray, List.set_cons_zero, List.set_cons_succ, List.getElem_toArray, List.getElem_cons_zero, List.getElem_cons_succ]
            refine anyL_done (by kernel_rfl) ?_ _
            go_wp2_with fail
            go_meet
            exact ⟨_, _, rfl, rfl, H9.out, H10.out, HX.out.1, HX.out.2, KW.out⟩
       ·
        go_simp
        obtain ⟨w_6_147, hwn⟩ : ∃ z, w_2_137.alloc (.cells #[.int .i64 0, .int .i64 0, .string ⟨#[]⟩, .int .i64 0] 29) = z := ⟨_, rfl⟩
        have k9 : Bl w_2_137 w_6_147 := by rw [← hwn]; exact (Below.refl _ _).alloc (Nat.le_refl _) _
        have H9 := Lib.hid (show Four w_6_147 w_2_137.heap.size (.int .i64 0) (.int .i64 0) (.string ⟨#[]⟩) (.int .i64 0) 29 from by rw [← hwn]; exact Four.new w_2_137 _ _ _ _ _)
        have hl9 := Lib.hid (lt_at HX.out.2)
        have hq := Lib.hid (lt_at H10.out)
        have HXn := Lib.hid (And.intro (HX.out.1.on k9) (HX.out.2.on k9))
        have KWn := Lib.hid (KW.out.trans ((k9 : Bl w_2_137 w_6_147).mono KW.out.size))
        clear HX KW
        have HX := HXn
        have KW := KWn
        clear HXn KWn
        have H10n := Lib.hid (H10.out.on k9)
        clear H10
        have H10 := H10n
        clear H10n
        try rw [hwn]
        refine hK.out _ _ HX.out (fun hHeld => ?_)
        clear hK K k9 hwn
        try simp only [Act.put, List.setIfInBounds_toArray, List.set_cons_zero, List.set_cons_succ, List.getElem_toArray, List.getElem_cons_zero, List.getElem_cons_succ]
        refine anyL_ready (rs := [4]) (by kernel_rfl) (by simp) ?_
        refine (AllL.cons rfl (fun K hK => ?_) AllL.nil)
        ·
         go_simp
         refine (HB _).mono ?_
         rintro e w_4_148 ⟨rfl, k9⟩
         have HXn := Lib.hid (And.intro (HX.out.1.on k9) (HX.out.2.on k9))
         have KWn := Lib.hid (KW.out.trans ((k9 : Bl w_6_147 w_4_148).mono KW.out.size))
         clear HX KW
         have HX := HXn
         have KW := KWn
         clear HXn KWn
         have H10n := Lib.hid (H10.out.on k9)
         clear H10
         have H10 := H10n
         clear H10n
         have H9n := Lib.hid (H9.out.on k9)
         clear H9
         have H9 := H9n
         clear H9n
         go_wp2_with fail
         refine hK.out _ _ HX.out (fun hHeld => ?_)
         clear hK K k9
         try simp only [Act.put, List.setIfInBounds_toArray, List.set_cons_zero, List.set_cons_succ, List.getElem_toArray, List.getElem_cons_zero, List.getElem_cons_succ]
         refine anyL_ready (rs := [5]) (by kernel_rfl) (by simp) ?_
         refine (AllL.cons rfl (fun K hK => ?_) AllL.nil)
         ·
          go_simp
          refine (HLB _).mono ?_
          rintro e w_5_149 ⟨rfl, k9⟩
          have HXn := Lib.hid (And.intro (HX.out.1.on k9) (HX.out.2.on k9))
          have KWn := Lib.hid (KW.out.trans ((k9 : Bl w_4_148 w_5_149).mono KW.out.size))
          clear HX KW
          have HX := HXn
          have KW := KWn
          clear HXn KWn
          have H10n := Lib.hid (H10.out.on k9)
          clear H10
          have H10 := H10n
          clear H10n
          have H9n := Lib.hid (H9.out.on k9)
          clear H9
          have H9 := H9n
          clear H9n
          go_wp2_with fail
          refine hK.out _ _ HX.out (fun hHeld => ?_)
          clear hK K k9
          try simp only [Act.put, List.setIfInBounds_toArray, List.set_cons_zero, List.set_cons_succ, List.getElem_toArray, List.getElem_cons_zero, List.getElem_cons_succ]
          refine anyL_ready (rs := [8]) (by kernel_rfl) (by simp) ?_
          refine (AllL.cons rfl (fun K hK => ?_) AllL.nil)
          ·
           have f0 := H9.out.f 0
           have f1 := H9.out.f 1
           have f2 := H9.out.f 2
           have f3 := H9.out.f 3
           obtain ⟨c0, c1, c2, c3⟩ := H9.out.c
           go_simp
           obtain ⟨w_8_150, hwn⟩ : ∃ z, (((w_5_149.setCell ⟨w_2_137.heap.size, 0, none⟩ (.int .i64 las)).setCell ⟨w_2_137.heap.size, 1, none⟩ (.int .i64 lan)).setCell ⟨w_2_137.heap.size, 2, none⟩ (.string lax)).setCell ⟨w_2_137.heap.size, 3, none⟩ (.int .i64 lat) = z := ⟨_, rfl⟩
           have H9n := Lib.hid (show Four w_8_150 (w_2_137.heap.size) (.int .i64 las) (.int .i64 lan) (.string lax) (.int .i64 lat) 29 from by rw [← hwn]; exact four_set H9.out _ _ _ _)
           have H10n := Lib.hid (show Four w_8_150 (w1d.heap.size) (.int .i64 0) (.int .i64 0) (.string ⟨#[]⟩) (.int .i64 0) 29 from by rw [← hwn]; exact four_far H10.out (by have := hq.out; omega) _ _ _ _)
           have HXn := Lib.hid (And.intro (show Four w_8_150 p (.int .u8 rk) (.int .i64 rn) (.string rx) (.int .i64 rt) 23 from by rw [← hwn]; exact four_far HX.out.1 (by have := hl9.out; omega) _ _ _ _) (show Four w_8_150 (p + 1) (.int .u8 sk) (.int .i64 sn) (.string sx) (.int .i64 st) 23 from by rw [← hwn]; exact four_far HX.out.2 (by have := hl9.out; omega) _ _ _ _))
           have KWn := Lib.hid (show Below W.heap.size W w_8_150 from by rw [← hwn]; exact below_set KW.out (by have := HP.out; have := hl9.out; omega) _ _ _ _)
           clear H9 H10 HX KW
           have H9 := H9n
           have H10 := H10n
           have HX := HXn
           have KW := KWn
           clear H9n H10n HXn KWn
           try rw [hwn]
           refine hK.out _ _ HX.out (fun hHeld => ?_)
           clear hK K hwn f0 f1 f2 f3 c0 c1 c2 c3
           try simp only [Act.put, List.setIfInBounds_toArray, List.set_cons_zero, List.set_cons_succ, List.getElem_toArray, List.getElem_cons_zero, List.getElem_cons_succ]
           refine anyL_ready (rs := [9]) (by kernel_rfl) (by simp) ?_
           refine (AllL.last rfl (by kernel_rfl) (fun K hK => ?_) AllL.nil)
           ·
            have f0 := H10.out.f 0
            have f1 := H10.out.f 1
            have f2 := H10.out.f 2
            have f3 := H10.out.f 3
            obtain ⟨c0, c1, c2, c3⟩ := H10.out.c
            go_simp
            obtain ⟨w_9_151, hwn⟩ : ∃ z, (((w_8_150.setCell ⟨w1d.heap.size, 0, none⟩ (.int .i64 lbs)).setCell ⟨w1d.heap.size, 1, none⟩ (.int .i64 lbn)).setCell ⟨w1d.heap.size, 2, none⟩ (.string lbx)).setCell ⟨w1d.heap.size, 3, none⟩ (.int .i64 lbt) = z := ⟨_, rfl⟩
            have H10n := Lib.hid (show Four w_9_151 (w1d.heap.size) (.int .i64 lbs) (.int .i64 lbn) (.string lbx) (.int .i64 lbt) 29 from by rw [← hwn]; exact four_set H10.out _ _ _ _)
            have H9n := Lib.hid (show Four w_9_151 (w_2_137.heap.size) (.int .i64 las) (.int .i64 lan) (.string lax) (.int .i64 lat) 29 from by rw [← hwn]; exact four_far H9.out (by have := hq.out; omega) _ _ _ _)
            have HXn := Lib.hid (And.intro (show Four w_9_151 p (.int .u8 rk) (.int .i64 rn) (.string rx) (.int .i64 rt) 23 from by rw [← hwn]; exact four_far HX.out.1 (by have := hl10.out; omega) _ _ _ _) (show Four w_9_151 (p + 1) (.int .u8 sk) (.int .i64 sn) (.string sx) (.int .i64 st) 23 from by rw [← hwn]; exact four_far HX.out.2 (by have := hl10.out; omega) _ _ _ _))
            have KWn := Lib.hid (show Below W.heap.size W w_9_151 from by rw [← hwn]; exact below_set KW.out (by have := HP.out; have := hl10.out; omega) _ _ _ _)
            clear H9 H10 HX KW
            have H9 := H9n
            have H10 := H10n
            have HX := HXn
            have KW := KWn
            clear H9n H10n HXn KWn
            try rw [hwn]
            refine hK.out _ _ ?_
            clear hK K hwn f0 f1 f2 f3 c0 c1 c2 c3
            try simp only [Act.put, List.setIfInBounds_toArray, List.set_cons_zero, List.set_cons_succ, List.getElem_toArray, List.getElem_cons_zero, List.getElem_cons_succ]
            refine anyL_done (by kernel_rfl) ?_ _
            go_wp2_with fail
            go_meet
            exact ⟨_, _, rfl, rfl, H9.out, H10.out, HX.out.1, HX.out.2, KW.out⟩
      ·
       go_simp
       obtain ⟨w_6_152, hwn⟩ : ∃ z, w_1_136.alloc (.cells #[.int .i64 0, .int .i64 0, .string ⟨#[]⟩, .int .i64 0] 29) = z := ⟨_, rfl⟩
       have k9 : Bl w_1_136 w_6_152 := by rw [← hwn]; exact (Below.refl _ _).alloc (Nat.le_refl _) _
       have H9 := Lib.hid (show Four w_6_152 w_1_136.heap.size (.int .i64 0) (.int .i64 0) (.string ⟨#[]⟩) (.int .i64 0) 29 from by rw [← hwn]; exact Four.new w_1_136 _ _ _ _ _)
       have hl9 := Lib.hid (lt_at HX.out.2)
       have hq := Lib.hid (lt_at H10.out)
       have HXn := Lib.hid (And.intro (HX.out.1.on k9) (HX.out.2.on k9))
       have KWn := Lib.hid (KW.out.trans ((k9 : Bl w_1_136 w_6_152).mono KW.out.size))
       clear HX KW
       have HX := HXn
       have KW := KWn
       clear HXn KWn
       have H10n := Lib.hid (H10.out.on k9)
       clear H10
       have H10 := H10n
       clear H10n
       try rw [hwn]
       refine hK.out _ _ HX.out (fun hHeld => ?_)
       clear hK K k9 hwn
       try simp only [Act.put, List.setIfInBounds_toArray, List.set_cons_zero, List.set_cons_succ, List.getElem_toArray, List.getElem_cons_zero, List.getElem_cons_succ]
       refine anyL_ready (rs := [2]) (by kernel_rfl) (by simp) ?_
       refine (AllL.cons rfl (fun K hK => ?_) AllL.nil)
       ·
        go_simp
        refine (HLA _).mono ?_
        rintro e w_2_153 ⟨rfl, k9⟩
        have HXn := Lib.hid (And.intro (HX.out.1.on k9) (HX.out.2.on k9))
        have KWn := Lib.hid (KW.out.trans ((k9 : Bl w_6_152 w_2_153).mono KW.out.size))
        clear HX KW
        have HX := HXn
        have KW := KWn
        clear HXn KWn
        have H10n := Lib.hid (H10.out.on k9)
        clear H10
        have H10 := H10n
        clear H10n
        have H9n := Lib.hid (H9.out.on k9)
        clear H9
        have H9 := H9n
        clear H9n
        go_wp2_with fail
        refine hK.out _ _ HX.out (fun hHeld => ?_)
        clear hK K k9
        try simp only [Act.put, List.setIfInBounds_toArray, List.set_cons_zero, List.set_cons_succ, List.getElem_toArray, List.getElem_cons_zero, List.getElem_cons_succ]
        refine anyL_ready (rs := [4]) (by kernel_rfl) (by simp) ?_
        refine (AllL.cons rfl (fun K hK => ?_) AllL.nil)
        ·
         go_simp
         refine (HB _).mono ?_
         rintro e w_4_154 ⟨rfl, k9⟩
         have HXn := Lib.hid (And.intro (HX.out.1.on k9) (HX.out.2.on k9))
         have KWn := Lib.hid (KW.out.trans ((k9 : Bl w_2_153 w_4_154).mono KW.out.size))
         clear HX KW
         have HX := HXn
         have KW := KWn
         clear HXn KWn
         have H10n := Lib.hid (H10.out.on k9)
         clear H10
         have H10 := H10n
         clear H10n
         have H9n := Lib.hid (H9.out.on k9)
         clear H9
         have H9 := H9n
         clear H9n
         go_wp2_with fail
         refine hK.out _ _ HX.out (fun hHeld => ?_)
         clear hK K k9
         try simp only [Act.put, List.setIfInBounds_toArray, List.set_cons_zero, List.set_cons_succ, List.getElem_toArray, List.getElem_cons_zero, List.getElem_cons_succ]
         refine anyL_ready (rs := [5]) (by kernel_rfl) (by simp) ?_
         refine (AllL.cons rfl (fun K hK => ?_) AllL.nil)
         ·
          go_simp
          refine (HLB _).mono ?_
          rintro e w_5_155 ⟨rfl, k9⟩
          have HXn := Lib.hid (And.intro (HX.out.1.on k9) (HX.out.2.on k9))
          have KWn := Lib.hid (KW.out.trans ((k9 : Bl w_4_154 w_5_155).mono KW.out.size))
          clear HX KW
          have HX := HXn
          have KW := KWn
          clear HXn KWn
          have H10n := Lib.hid (H10.out.on k9)
          clear H10
          have H10 := H10n
          clear H10n
          have H9n := Lib.hid (H9.out.on k9)
          clear H9
          have H9 := H9n
          clear H9n
          go_wp2_with fail
          refine hK.out _ _ HX.out (fun hHeld => ?_)
          clear hK K k9
          try simp only [Act.put, List.setIfInBounds_toArray, List.set_cons_zero, List.set_cons_succ, List.getElem_toArray, List.getElem_cons_zero, List.getElem_cons_succ]
          refine anyL_ready (rs := [8]) (by kernel_rfl) (by simp) ?_
          refine (AllL.cons rfl (fun K hK => ?_) AllL.nil)
          ·
           have f0 := H9.out.f 0
           have f1 := H9.out.f 1
           have f2 := H9.out.f 2
           have f3 := H9.out.f 3
           obtain ⟨c0, c1, c2, c3⟩ := H9.out.c
           go_simp
           obtain ⟨w_8_156, hwn⟩ : ∃ z, (((w_5_155.setCell ⟨w_1_136.heap.size, 0, none⟩ (.int .i64 las)).setCell ⟨w_1_136.heap.size, 1, none⟩ (.int .i64 lan)).setCell ⟨w_1_136.heap.size, 2, none⟩ (.string lax)).setCell ⟨w_1_136.heap.size, 3, none⟩ (.int .i64 lat) = z := ⟨_, rfl⟩
           have H9n := Lib.hid (show Four w_8_156 (w_1_136.heap.size) (.int .i64 las) (.int .i64 lan) (.string lax) (.int .i64 lat) 29 from by rw [← hwn]; exact four_set H9.out _ _ _ _)
           have H10n := Lib.hid (show Four w_8_156 (w1d.heap.size) (.int .i64 0) (.int .i64 0) (.string ⟨#[]⟩) (.int .i64 0) 29 from by rw [← hwn]; exact four_far H10.out (by have := hq.out; omega) _ _ _ _)
           have HXn := Lib.hid (And.intro (show Four w_8_156 p (.int .u8 rk) (.int .i64 rn) (.string rx) (.int .i64 rt) 23 from by rw [← hwn]; exact four_far HX.out.1 (by have := hl9.out; omega) _ _ _ _) (show Four w_8_156 (p + 1) (.int .u8 sk) (.int .i64 sn) (.string sx) (.int .i64 st) 23 from by rw [← hwn]; exact four_far HX.out.2 (by have := hl9.out; omega) _ _ _ _))
           have KWn := Lib.hid (show Below W.heap.size W w_8_156 from by rw [← hwn]; exact below_set KW.out (by have := HP.out; have := hl9.out; omega) _ _ _ _)
           clear H9 H10 HX KW
           have H9 := H9n
           have H10 := H10n
           have HX := HXn
           have KW := KWn
           clear H9n H10n HXn KWn
           try rw [hwn]
           refine hK.out _ _ HX.out (fun hHeld => ?_)
           clear hK K hwn f0 f1 f2 f3 c0 c1 c2 c3
           try simp only [Act.put, List.setIfInBounds_toArray, List.set_cons_zero, List.set_cons_succ, List.getElem_toArray, List.getElem_cons_zero, List.getElem_cons_succ]
           refine anyL_ready (rs := [9]) (by kernel_rfl) (by simp) ?_
           refine (AllL.last rfl (by kernel_rfl) (fun K hK => ?_) AllL.nil)
           ·
            have f0 := H10.out.f 0
            have f1 := H10.out.f 1
            have f2 := H10.out.f 2
            have f3 := H10.out.f 3
            obtain ⟨c0, c1, c2, c3⟩ := H10.out.c
            go_simp
            obtain ⟨w_9_157, hwn⟩ : ∃ z, (((w_8_156.setCell ⟨w1d.heap.size, 0, none⟩ (.int .i64 lbs)).setCell ⟨w1d.heap.size, 1, none⟩ (.int .i64 lbn)).setCell ⟨w1d.heap.size, 2, none⟩ (.string lbx)).setCell ⟨w1d.heap.size, 3, none⟩ (.int .i64 lbt) = z := ⟨_, rfl⟩
            have H10n := Lib.hid (show Four w_9_157 (w1d.heap.size) (.int .i64 lbs) (.int .i64 lbn) (.string lbx) (.int .i64 lbt) 29 from by rw [← hwn]; exact four_set H10.out _ _ _ _)
            have H9n := Lib.hid (show Four w_9_157 (w_1_136.heap.size) (.int .i64 las) (.int .i64 lan) (.string lax) (.int .i64 lat) 29 from by rw [← hwn]; exact four_far H9.out (by have := hq.out; omega) _ _ _ _)
            have HXn := Lib.hid (And.intro (show Four w_9_157 p (.int .u8 rk) (.int .i64 rn) (.string rx) (.int .i64 rt) 23 from by rw [← hwn]; exact four_far HX.out.1 (by have := hl10.out; omega) _ _ _ _) (show Four w_9_157 (p + 1) (.int .u8 sk) (.int .i64 sn) (.string sx) (.int .i64 st) 23 from by rw [← hwn]; exact four_far HX.out.2 (by have := hl10.out; omega) _ _ _ _))
            have KWn := Lib.hid (show Below W.heap.size W w_9_157 from by rw [← hwn]; exact below_set KW.out (by have := HP.out; have := hl10.out; omega) _ _ _ _)
            clear H9 H10 HX KW
            have H9 := H9n
            have H10 := H10n
            have HX := HXn
            have KW := KWn
            clear H9n H10n HXn KWn
            try rw [hwn]
            refine hK.out _ _ ?_
            clear hK K hwn f0 f1 f2 f3 c0 c1 c2 c3
            try simp only [Act.put, List.setIfInBounds_toArray, List.set_cons_zero, List.set_cons_succ, List.getElem_toArray, List.getElem_cons_zero, List.getElem_cons_succ]
            refine anyL_done (by kernel_rfl) ?_ _
            go_wp2_with fail
            go_meet
            exact ⟨_, _, rfl, rfl, H9.out, H10.out, HX.out.1, HX.out.2, KW.out⟩
     ·
      go_simp
      obtain ⟨w_6_158, hwn⟩ : ∃ z, w_7_135.alloc (.cells #[.int .i64 0, .int .i64 0, .string ⟨#[]⟩, .int .i64 0] 29) = z := ⟨_, rfl⟩
      have k9 : Bl w_7_135 w_6_158 := by rw [← hwn]; exact (Below.refl _ _).alloc (Nat.le_refl _) _
      have H9 := Lib.hid (show Four w_6_158 w_7_135.heap.size (.int .i64 0) (.int .i64 0) (.string ⟨#[]⟩) (.int .i64 0) 29 from by rw [← hwn]; exact Four.new w_7_135 _ _ _ _ _)
      have hl9 := Lib.hid (lt_at HX.out.2)
      have hq := Lib.hid (lt_at H10.out)
      have HXn := Lib.hid (And.intro (HX.out.1.on k9) (HX.out.2.on k9))
      have KWn := Lib.hid (KW.out.trans ((k9 : Bl w_7_135 w_6_158).mono KW.out.size))
      clear HX KW
      have HX := HXn
      have KW := KWn
      clear HXn KWn
      have H10n := Lib.hid (H10.out.on k9)
      clear H10
      have H10 := H10n
      clear H10n
      try rw [hwn]
      refine hK.out _ _ HX.out (fun hHeld => ?_)
      clear hK K k9 hwn
      try simp only [Act.put, List.setIfInBounds_toArray, List.set_cons_zero, List.set_cons_succ, List.getElem_toArray, List.getElem_cons_zero, List.getElem_cons_succ]
      refine anyL_ready (rs := [1]) (by kernel_rfl) (by simp) ?_
      refine (AllL.cons rfl (fun K hK => ?_) AllL.nil)
      ·
       go_simp
       refine (HA _).mono ?_
       rintro e w_1_159 ⟨rfl, k9⟩
       have HXn := Lib.hid (And.intro (HX.out.1.on k9) (HX.out.2.on k9))
       have KWn := Lib.hid (KW.out.trans ((k9 : Bl w_6_158 w_1_159).mono KW.out.size))
       clear HX KW
       have HX := HXn
       have KW := KWn
       clear HXn KWn
       have H10n := Lib.hid (H10.out.on k9)
       clear H10
       have H10 := H10n
       clear H10n
       have H9n := Lib.hid (H9.out.on k9)
       clear H9
       have H9 := H9n
       clear H9n
       go_wp2_with fail
       refine hK.out _ _ HX.out (fun hHeld => ?_)
       clear hK K k9
       try simp only [Act.put, List.setIfInBounds_toArray, List.set_cons_zero, List.set_cons_succ, List.getElem_toArray, List.getElem_cons_zero, List.getElem_cons_succ]
       refine anyL_ready (rs := [2]) (by kernel_rfl) (by simp) ?_
       refine (AllL.cons rfl (fun K hK => ?_) AllL.nil)
       ·
        go_simp
        refine (HLA _).mono ?_
        rintro e w_2_160 ⟨rfl, k9⟩
        have HXn := Lib.hid (And.intro (HX.out.1.on k9) (HX.out.2.on k9))
        have KWn := Lib.hid (KW.out.trans ((k9 : Bl w_1_159 w_2_160).mono KW.out.size))
        clear HX KW
        have HX := HXn
        have KW := KWn
        clear HXn KWn
        have H10n := Lib.hid (H10.out.on k9)
        clear H10
        have H10 := H10n
        clear H10n
        have H9n := Lib.hid (H9.out.on k9)
        clear H9
        have H9 := H9n
        clear H9n
        go_wp2_with fail
        refine hK.out _ _ HX.out (fun hHeld => ?_)
        clear hK K k9
        try simp only [Act.put, List.setIfInBounds_toArray, List.set_cons_zero, List.set_cons_succ, List.getElem_toArray, List.getElem_cons_zero, List.getElem_cons_succ]
        refine anyL_ready (rs := [4]) (by kernel_rfl) (by simp) ?_
        refine (AllL.cons rfl (fun K hK => ?_) AllL.nil)
        ·
         go_simp
         refine (HB _).mono ?_
         rintro e w_4_161 ⟨rfl, k9⟩
         have HXn := Lib.hid (And.intro (HX.out.1.on k9) (HX.out.2.on k9))
         have KWn := Lib.hid (KW.out.trans ((k9 : Bl w_2_160 w_4_161).mono KW.out.size))
         clear HX KW
         have HX := HXn
         have KW := KWn
         clear HXn KWn
         have H10n := Lib.hid (H10.out.on k9)
         clear H10
         have H10 := H10n
         clear H10n
         have H9n := Lib.hid (H9.out.on k9)
         clear H9
         have H9 := H9n
         clear H9n
         go_wp2_with fail
         refine hK.out _ _ HX.out (fun hHeld => ?_)
         clear hK K k9
         try simp only [Act.put, List.setIfInBounds_toArray, List.set_cons_zero, List.set_cons_succ, List.getElem_toArray, List.getElem_cons_zero, List.getElem_cons_succ]
         refine anyL_ready (rs := [5]) (by kernel_rfl) (by simp) ?_
         refine (AllL.cons rfl (fun K hK => ?_) AllL.nil)
         ·
          go_simp
          refine (HLB _).mono ?_
          rintro e w_5_162 ⟨rfl, k9⟩
          have HXn := Lib.hid (And.intro (HX.out.1.on k9) (HX.out.2.on k9))
          have KWn := Lib.hid (KW.out.trans ((k9 : Bl w_4_161 w_5_162).mono KW.out.size))
          clear HX KW
          have HX := HXn
          have KW := KWn
          clear HXn KWn
          have H10n := Lib.hid (H10.out.on k9)
          clear H10
          have H10 := H10n
          clear H10n
          have H9n := Lib.hid (H9.out.on k9)
          clear H9
          have H9 := H9n
          clear H9n
          go_wp2_with fail
          refine hK.out _ _ HX.out (fun hHeld => ?_)
          clear hK K k9
          try simp only [Act.put, List.setIfInBounds_toArray, List.set_cons_zero, List.set_cons_succ, List.getElem_toArray, List.getElem_cons_zero, List.getElem_cons_succ]
          refine anyL_ready (rs := [8]) (by kernel_rfl) (by simp) ?_
          refine (AllL.cons rfl (fun K hK => ?_) AllL.nil)
          ·
           have f0 := H9.out.f 0
           have f1 := H9.out.f 1
           have f2 := H9.out.f 2
           have f3 := H9.out.f 3
           obtain ⟨c0, c1, c2, c3⟩ := H9.out.c
           go_simp
           obtain ⟨w_8_163, hwn⟩ : ∃ z, (((w_5_162.setCell ⟨w_7_135.heap.size, 0, none⟩ (.int .i64 las)).setCell ⟨w_7_135.heap.size, 1, none⟩ (.int .i64 lan)).setCell ⟨w_7_135.heap.size, 2, none⟩ (.string lax)).setCell ⟨w_7_135.heap.size, 3, none⟩ (.int .i64 lat) = z := ⟨_, rfl⟩
           have H9n := Lib.hid (show Four w_8_163 (w_7_135.heap.size) (.int .i64 las) (.int .i64 lan) (.string lax) (.int .i64 lat) 29 from by rw [← hwn]; exact four_set H9.out _ _ _ _)
           have H10n := Lib.hid (show Four w_8_163 (w1d.heap.size) (.int .i64 0) (.int .i64 0) (.string ⟨#[]⟩) (.int .i64 0) 29 from by rw [← hwn]; exact four_far H10.out (by have := hq.out; omega) _ _ _ _)
           have HXn := Lib.hid (And.intro (show Four w_8_163 p (.int .u8 rk) (.int .i64 rn) (.string rx) (.int .i64 rt) 23 from by rw [← hwn]; exact four_far HX.out.1 (by have := hl9.out; omega) _ _ _ _) (show Four w_8_163 (p + 1) (.int .u8 sk) (.int .i64 sn) (.string sx) (.int .i64 st) 23 from by rw [← hwn]; exact four_far HX.out.2 (by have := hl9.out; omega) _ _ _ _))
           have KWn := Lib.hid (show Below W.heap.size W w_8_163 from by rw [← hwn]; exact below_set KW.out (by have := HP.out; have := hl9.out; omega) _ _ _ _)
           clear H9 H10 HX KW
           have H9 := H9n
           have H10 := H10n
           have HX := HXn
           have KW := KWn
           clear H9n H10n HXn KWn
           try rw [hwn]
           refine hK.out _ _ HX.out (fun hHeld => ?_)
           clear hK K hwn f0 f1 f2 f3 c0 c1 c2 c3
           try simp only [Act.put, List.setIfInBounds_toArray, List.set_cons_zero, List.set_cons_succ, List.getElem_toArray, List.getElem_cons_zero, List.getElem_cons_succ]
           refine anyL_ready (rs := [9]) (by kernel_rfl) (by simp) ?_
           refine (AllL.last rfl (by kernel_rfl) (fun K hK => ?_) AllL.nil)
           ·
            have f0 := H10.out.f 0
            have f1 := H10.out.f 1
            have f2 := H10.out.f 2
            have f3 := H10.out.f 3
            obtain ⟨c0, c1, c2, c3⟩ := H10.out.c
            go_simp
            obtain ⟨w_9_164, hwn⟩ : ∃ z, (((w_8_163.setCell ⟨w1d.heap.size, 0, none⟩ (.int .i64 lbs)).setCell ⟨w1d.heap.size, 1, none⟩ (.int .i64 lbn)).setCell ⟨w1d.heap.size, 2, none⟩ (.string lbx)).setCell ⟨w1d.heap.size, 3, none⟩ (.int .i64 lbt) = z := ⟨_, rfl⟩
            have H10n := Lib.hid (show Four w_9_164 (w1d.heap.size) (.int .i64 lbs) (.int .i64 lbn) (.string lbx) (.int .i64 lbt) 29 from by rw [← hwn]; exact four_set H10.out _ _ _ _)
            have H9n := Lib.hid (show Four w_9_164 (w_7_135.heap.size) (.int .i64 las) (.int .i64 lan) (.string lax) (.int .i64 lat) 29 from by rw [← hwn]; exact four_far H9.out (by have := hq.out; omega) _ _ _ _)
            have HXn := Lib.hid (And.intro (show Four w_9_164 p (.int .u8 rk) (.int .i64 rn) (.string rx) (.int .i64 rt) 23 from by rw [← hwn]; exact four_far HX.out.1 (by have := hl10.out; omega) _ _ _ _) (show Four w_9_164 (p + 1) (.int .u8 sk) (.int .i64 sn) (.string sx) (.int .i64 st) 23 from by rw [← hwn]; exact four_far HX.out.2 (by have := hl10.out; omega) _ _ _ _))
            have KWn := Lib.hid (show Below W.heap.size W w_9_164 from by rw [← hwn]; exact below_set KW.out (by have := HP.out; have := hl10.out; omega) _ _ _ _)
            clear H9 H10 HX KW
            have H9 := H9n
            have H10 := H10n
            have HX := HXn
            have KW := KWn
            clear H9n H10n HXn KWn
            try rw [hwn]
            refine hK.out _ _ ?_
            clear hK K hwn f0 f1 f2 f3 c0 c1 c2 c3
            try simp only [Act.put, List.setIfInBounds_toArray, List.set_cons_zero, List.set_cons_succ, List.getElem_toArray, List.getElem_cons_zero, List.getElem_cons_succ]
            refine anyL_done (by kernel_rfl) ?_ _
            go_wp2_with fail
            go_meet
            exact ⟨_, _, rfl, rfl, H9.out, H10.out, HX.out.1, HX.out.2, KW.out⟩
  case rest =>
    obtain ⟨q, q', rfl, rfl, h9, h10, hA, hB, hK⟩ := hcut
    clear HX KW
    have H9 := Lib.hid h9
    have H10 := Lib.hid h10
    have HA_ := Lib.hid hA
    have HB_ := Lib.hid hB
    have KW := Lib.hid hK
    have hAB := And.intro hA hB
    clear h9 h10 hA hB hK
    go_wp2_with fail
    refine region_l 10 (S := fun w' => Four w' p (.int .u8 rk) (.int .i64 rn) (.string rx) (.int .i64 rt) 23 ∧ Four w' (p + 1) (.int .u8 sk) (.int .i64 sn) (.string sx) (.int .i64 st) 23) hfw ?_ (fun hHeld => ?_)
    · exact ⟨hAB.1.on ((Below.refl _ _).drew), hAB.2.on ((Below.refl _ _).drew)⟩
    refine anyL_take (k := 60) (i := 0) (v := ?_) rfl (by kernel_rfl) (by kernel_rfl) (by kernel_rfl) (by kernel_rfl) (fun _ _ _ h => h) (Or.inl ⟨by rfl, ?_⟩) (by assumption) ?_
    rotate_left
    · intro w hSw; (try dsimp only at hSw); go_simp; try with_reducible rfl
    try simp only [Act.put, List.setIfInBounds_toArray, List.set_cons_zero, List.set_cons_succ, List.getElem_toArray, List.getElem_cons_zero, List.getElem_cons_succ]
    refine anyL_take (k := 60) (i := 1) (v := ?_) rfl (by kernel_rfl) (by kernel_rfl) (by kernel_rfl) (by kernel_rfl) (fun _ _ _ h => h) (Or.inl ⟨by rfl, ?_⟩) (by assumption) ?_
    rotate_left
    · intro w hSw
      obtain ⟨z0, z1, z2, z3⟩ := Four.c hSw.1
      obtain ⟨z4, z5, z6, z7⟩ := Four.c hSw.2
      go_simp; try with_reducible rfl
    try simp only [Act.put, List.setIfInBounds_toArray, List.set_cons_zero, List.set_cons_succ, List.getElem_toArray, List.getElem_cons_zero, List.getElem_cons_succ]
    refine anyL_take (k := 60) (i := 3) (v := ?_) rfl (by kernel_rfl) (by kernel_rfl) (by kernel_rfl) (by kernel_rfl) (fun _ _ _ h => h) (Or.inl ⟨by rfl, ?_⟩) (by assumption) ?_
    rotate_left
    · intro w hSw
      obtain ⟨z0, z1, z2, z3⟩ := Four.c hSw.1
      obtain ⟨z4, z5, z6, z7⟩ := Four.c hSw.2
      go_simp; try with_reducible rfl
    try simp only [Act.put, List.setIfInBounds_toArray, List.set_cons_zero, List.set_cons_succ, List.getElem_toArray, List.getElem_cons_zero, List.getElem_cons_succ]
    refine anyL_ready (rs := [2]) (by kernel_rfl) (by simp) ?_
    refine AllL.cons rfl (fun K hK => ?_) ?_
    rotate_left
    · exact AllL.nil
    go_simp
    refine (HA _).mono ?_
    rintro e w2 ⟨rfl, k2⟩
    have KW := Lib.hid (KW.out.trans (((Bl.on (Below.drew (Below.refl _ wc)) k2) : Bl _ _).mono KW.out.size))
    have HA_ := Lib.hid (HA_.out.on (Bl.on (Below.drew (Below.refl _ wc)) k2))
    have HB_ := Lib.hid (HB_.out.on (Bl.on (Below.drew (Below.refl _ wc)) k2))
    have H9 := Lib.hid (H9.out.on (Bl.on (Below.drew (Below.refl _ wc)) k2))
    have H10 := Lib.hid (H10.out.on (Bl.on (Below.drew (Below.refl _ wc)) k2))
    have hS9 := And.intro HA_.out HB_.out
    go_wp2_with fail
    refine hK.out _ _ hS9 (fun hHeld => ?_)
    clear hK K
    try simp only [Act.put, List.setIfInBounds_toArray, List.set_cons_zero, List.set_cons_succ, List.getElem_toArray, List.getElem_cons_zero, List.getElem_cons_succ]
    refine anyL_ready (rs := [4]) (by kernel_rfl) (by simp) ?_
    refine AllL.cons rfl (fun K hK => ?_) ?_
    rotate_left
    · exact AllL.nil
    go_simp
    refine (HB _).mono ?_
    rintro e w3 ⟨rfl, k3⟩
    have KW := Lib.hid (KW.out.trans ((k3 : Bl _ _).mono KW.out.size))
    have HA_ := Lib.hid (HA_.out.on k3)
    have HB_ := Lib.hid (HB_.out.on k3)
    have H9 := Lib.hid (H9.out.on k3)
    have H10 := Lib.hid (H10.out.on k3)
    have hS9 := And.intro HA_.out HB_.out
    go_wp2_with fail
    refine hK.out _ _ hS9 (fun hHeld => ?_)
    clear hK K
    try simp only [Act.put, List.setIfInBounds_toArray, List.set_cons_zero, List.set_cons_succ, List.getElem_toArray, List.getElem_cons_zero, List.getElem_cons_succ]
    refine anyL_ready (rs := [5]) (by kernel_rfl) (by simp) ?_
    refine AllL.cons rfl (fun K hK => ?_) ?_
    rotate_left
    · exact AllL.nil
    go_simp
    refine (HD _).mono ?_
    rintro e w4 ⟨rfl, k4⟩
    have KW := Lib.hid (KW.out.trans ((k4 : Bl _ _).mono KW.out.size))
    have HA_ := Lib.hid (HA_.out.on k4)
    have HB_ := Lib.hid (HB_.out.on k4)
    have H9 := Lib.hid (H9.out.on k4)
    have H10 := Lib.hid (H10.out.on k4)
    have hS9 := And.intro HA_.out HB_.out
    go_wp2_with fail
    refine hK.out _ _ hS9 (fun hHeld => ?_)
    clear hK K
    try simp only [Act.put, List.setIfInBounds_toArray, List.set_cons_zero, List.set_cons_succ, List.getElem_toArray, List.getElem_cons_zero, List.getElem_cons_succ]
    refine anyL_take (k := 60) (i := 6) (v := ?_) rfl (by kernel_rfl) (by kernel_rfl) (by kernel_rfl) (by kernel_rfl) (fun _ _ _ h => h) (Or.inl ⟨by rfl, ?_⟩) (by assumption) ?_
    rotate_left
    · intro w hSw; (try dsimp only at hSw); go_simp; try with_reducible rfl
    try simp only [Act.put, List.setIfInBounds_toArray, List.set_cons_zero, List.set_cons_succ, List.getElem_toArray, List.getElem_cons_zero, List.getElem_cons_succ]
    refine anyL_take (k := 60) (i := 7) (v := ?_) rfl (by kernel_rfl) (by kernel_rfl) (by kernel_rfl) (by kernel_rfl) (fun _ _ _ h => h) (Or.inl ⟨by rfl, ?_⟩) (by assumption) ?_
    rotate_left
    · intro w hSw; (try dsimp only at hSw); go_simp; try with_reducible rfl
    try simp only [Act.put, List.setIfInBounds_toArray, List.set_cons_zero, List.set_cons_succ, List.getElem_toArray, List.getElem_cons_zero, List.getElem_cons_succ]
    refine anyL_take (k := 60) (i := 8) (v := ?_) rfl (by kernel_rfl) (by kernel_rfl) (by kernel_rfl) (by kernel_rfl) (fun _ _ _ h => h) (Or.inl ⟨by rfl, ?_⟩) (by assumption) ?_
    rotate_left
    · intro w hSw; (try dsimp only at hSw); go_simp; try with_reducible rfl
    try simp only [Act.put, List.setIfInBounds_toArray, List.set_cons_zero, List.set_cons_succ, List.getElem_toArray, List.getElem_cons_zero, List.getElem_cons_succ]
    refine anyL_take (k := 60) (i := 9) (v := ?_) rfl (by kernel_rfl) (by kernel_rfl) (by kernel_rfl) (by kernel_rfl) (fun _ _ _ h => h) (Or.inl ⟨by rfl, ?_⟩) (by assumption) ?_
    rotate_left
    · intro w hSw; (try dsimp only at hSw); go_simp; try with_reducible rfl
    try simp only [Act.put, List.setIfInBounds_toArray, List.set_cons_zero, List.set_cons_succ, List.getElem_toArray, List.getElem_cons_zero, List.getElem_cons_succ]
    refine anyL_ready (rs := [10]) (by kernel_rfl) (by simp) ?_
    refine AllL.last rfl (by kernel_rfl) (fun K hK => ?_) ?_
    rotate_left
    · exact AllL.nil
    go_simp
    refine hK.out _ _ ?_
    clear hK K
    try simp only [Act.put, List.setIfInBounds_toArray, List.set_cons_zero, List.set_cons_succ, List.getElem_toArray, List.getElem_cons_zero, List.getElem_cons_succ]
    refine anyL_done (by kernel_rfl) ?_ _
    clear k2 k3 k4 hS9 hAB
    obtain ⟨H9c0, H9c1, H9c2, H9c3⟩ := H9.out.c
    obtain ⟨H10c0, H10c1, H10c2, H10c3⟩ := H10.out.c
    go_wp2_with fail
    refine (HDD _).mono ?_
    rintro e w5 ⟨rfl, k5⟩
    clear H9c0 H9c1 H9c2 H9c3 H10c0 H10c1 H10c2 H10c3
    have KW := Lib.hid (KW.out.trans ((k5 : Bl _ _).mono KW.out.size))
    have HA_ := Lib.hid (HA_.out.on k5)
    have HB_ := Lib.hid (HB_.out.on k5)
    have H9 := Lib.hid (H9.out.on k5)
    have H10 := Lib.hid (H10.out.on k5)
    clear k5
    go_upto_region 8 with fail
    obtain ⟨w6, hwn⟩ : ∃ z, w5.alloc (.cells #[.int .i64 ps, .int .i64 pn, .string px, .int .i64 pt] 29) = z := ⟨_, rfl⟩
    have k6 : Bl w5 w6 := by rw [← hwn]; exact (Below.refl _ _).alloc (Nat.le_refl _) _
    have H13 := Lib.hid (show Four w6 w5.heap.size (.int .i64 ps) (.int .i64 pn) (.string px) (.int .i64 pt) 29 from by rw [← hwn]; exact Four.new w5 _ _ _ _ _)
    rw [hwn]
    clear hwn
    have KW := Lib.hid (KW.out.trans ((k6 : Bl _ _).mono KW.out.size))
    have HA_ := Lib.hid (HA_.out.on k6)
    have HB_ := Lib.hid (HB_.out.on k6)
    have H9 := Lib.hid (H9.out.on k6)
    have H10 := Lib.hid (H10.out.on k6)
    clear k6
    obtain ⟨HA_c0, HA_c1, HA_c2, HA_c3⟩ := HA_.out.c
    go_wp2_with fail
    refine (HA _).mono ?_
    rintro e w7 ⟨rfl, k7⟩
    clear HA_c0 HA_c1 HA_c2 HA_c3
    have KW := Lib.hid (KW.out.trans ((k7 : Bl _ _).mono KW.out.size))
    have HA_ := Lib.hid (HA_.out.on k7)
    have HB_ := Lib.hid (HB_.out.on k7)
    have H9 := Lib.hid (H9.out.on k7)
    have H10 := Lib.hid (H10.out.on k7)
    have H13 := Lib.hid (H13.out.on k7)
    clear k7
    go_wp2_with fail
    refine (HO _).mono ?_
    rintro e w8 ⟨rfl, k8⟩
    have KW := Lib.hid (KW.out.trans ((k8 : Bl _ _).mono KW.out.size))
    have HA_ := Lib.hid (HA_.out.on k8)
    have HB_ := Lib.hid (HB_.out.on k8)
    have H9 := Lib.hid (H9.out.on k8)
    have H10 := Lib.hid (H10.out.on k8)
    have H13 := Lib.hid (H13.out.on k8)
    clear k8
    obtain ⟨H9c0, H9c1, H9c2, H9c3⟩ := H9.out.c
    go_wp2_with fail
    refine (HOD _).mono ?_
    rintro e w9 ⟨rfl, k9⟩
    clear H9c0 H9c1 H9c2 H9c3
    have KW := Lib.hid (KW.out.trans ((k9 : Bl _ _).mono KW.out.size))
    have HA_ := Lib.hid (HA_.out.on k9)
    have HB_ := Lib.hid (HB_.out.on k9)
    have H9 := Lib.hid (H9.out.on k9)
    have H10 := Lib.hid (H10.out.on k9)
    have H13 := Lib.hid (H13.out.on k9)
    clear k9
    go_upto_region 10 with fail
    obtain ⟨w10, hwn⟩ : ∃ z, w9.alloc (.cells #[.int .i64 js, .int .i64 jn, .string jx, .int .i64 jt] 29) = z := ⟨_, rfl⟩
    have k10 : Bl w9 w10 := by rw [← hwn]; exact (Below.refl _ _).alloc (Nat.le_refl _) _
    have H17 := Lib.hid (show Four w10 w9.heap.size (.int .i64 js) (.int .i64 jn) (.string jx) (.int .i64 jt) 29 from by rw [← hwn]; exact Four.new w9 _ _ _ _ _)
    rw [hwn]
    clear hwn
    have KW := Lib.hid (KW.out.trans ((k10 : Bl _ _).mono KW.out.size))
    have HA_ := Lib.hid (HA_.out.on k10)
    have HB_ := Lib.hid (HB_.out.on k10)
    have H9 := Lib.hid (H9.out.on k10)
    have H10 := Lib.hid (H10.out.on k10)
    have H13 := Lib.hid (H13.out.on k10)
    clear k10
    obtain ⟨H13c0, H13c1, H13c2, H13c3⟩ := H13.out.c
    obtain ⟨H17c0, H17c1, H17c2, H17c3⟩ := H17.out.c
    go_wp2_with fail
    refine (HS1 _).mono ?_
    rintro e w11 ⟨rfl, k11⟩
    clear H13c0 H13c1 H13c2 H13c3 H17c0 H17c1 H17c2 H17c3
    have KW := Lib.hid (KW.out.trans ((k11 : Bl _ _).mono KW.out.size))
    have H13 := Lib.hid (H13.out.on k11)
    have H17 := Lib.hid (H17.out.on k11)
    clear k11
    obtain ⟨H13c0, H13c1, H13c2, H13c3⟩ := H13.out.c
    obtain ⟨H17c0, H17c1, H17c2, H17c3⟩ := H17.out.c
    go_wp2_with fail
    refine (HS2 _).mono ?_
    rintro e w12 ⟨rfl, k12⟩
    clear H13c0 H13c1 H13c2 H13c3 H17c0 H17c1 H17c2 H17c3
    have KW := Lib.hid (KW.out.trans ((k12 : Bl _ _).mono KW.out.size))
    clear k12
    go_wp2_with fail
    refine (works_any _).mono ?_
    rintro e w13 ⟨rfl, k13⟩
    have KW := Lib.hid (KW.out.trans ((k13 : Bl _ _).mono KW.out.size))
    clear k13
    go_wp2_with fail
    go_ret
    exact ⟨rfl, KW.out⟩
end Go.Proofs.Ytpnohljhpoildaa
