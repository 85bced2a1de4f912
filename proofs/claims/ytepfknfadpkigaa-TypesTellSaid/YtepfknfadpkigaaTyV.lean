/- Law 11: TypesTell. -/
import Derived.Test.YtepfknfadpkigaaTyU
namespace Go.Proofs.Ytepfknfadpkigaa
open Go.RowKit
set_option maxHeartbeats 1000000
set_option maxRecDepth 100000
set_option linter.unusedVariables false
set_option linter.unusedSimpArgs false

theorem agree {w : World} {t t2 : Nat} {K : List TyK} {L L2 : List TyV} {g cap g2 cap2 : Nat} {w0 : World} (h : Two w0 w t t2 K L L2 g cap g2 cap2) (j : Int) : (atP L j).k = (atP L2 j).k ∧ (atP L j).b = (atP L2 j).b ∧ (atP L j).lo = (atP L2 j).lo ∧ (atP L j).hi = (atP L2 j).hi := by
  have h1 := (h.p.at j).1.s
  have h2 := (h.d.at j).s
  exact ⟨h1.1.trans h2.1.symm, h1.2.2.2.1.trans h2.2.2.2.1.symm, h1.2.2.2.2.2.1.trans h2.2.2.2.2.2.1.symm, h1.2.2.2.2.2.2.1.trans h2.2.2.2.2.2.2.1.symm⟩
theorem ag_base {L L2 : List TyV} (h : ∀ j : Int, (atP L j).k = (atP L2 j).k ∧ (atP L j).b = (atP L2 j).b ∧ (atP L j).lo = (atP L2 j).lo ∧ (atP L j).hi = (atP L2 j).hi) (i : Int) : baseP L i = baseP L2 i := by
  unfold baseP; rw [(h i).1, (h i).2.1]
theorem ag_num {L L2 : List TyV} (h : ∀ j : Int, (atP L j).k = (atP L2 j).k ∧ (atP L j).b = (atP L2 j).b ∧ (atP L j).lo = (atP L2 j).lo ∧ (atP L j).hi = (atP L2 j).hi) (i : Int) : numP L i = numP L2 i := by
  unfold numP kindP; rw [ag_base h, (h _).1]
theorem ag_ord {L L2 : List TyV} (h : ∀ j : Int, (atP L j).k = (atP L2 j).k ∧ (atP L j).b = (atP L2 j).b ∧ (atP L j).lo = (atP L2 j).lo ∧ (atP L j).hi = (atP L2 j).hi) (i : Int) : ordD L i = ordD L2 i := by
  unfold ordD kindP; rw [ag_num h, ag_base h, (h _).1]
theorem ag_range {L L2 : List TyV} (h : ∀ j : Int, (atP L j).k = (atP L2 j).k ∧ (atP L j).b = (atP L2 j).b ∧ (atP L j).lo = (atP L2 j).lo ∧ (atP L j).hi = (atP L2 j).hi) (i : Int) : rangeD L i = rangeD L2 i := by
  unfold rangeD; rw [(h i).1, (h i).2.2.1, (h i).2.2.2]
theorem range_no (L : List TyV) (i : Int) (h : ordD L i = false) : rangeP L i = (0, 0, false) := by
  rw [ord_is] at h
  unfold rangeP rangeV at *
  split at h
  · split at h <;> cases h
  · rename_i hc; rw [if_neg hc]
theorem flat_at {K : List TyK} (h : ∀ c ∈ K, flatK c) (i : Int) : flatK (atK K i) := by
  unfold atK
  by_cases h0 : 0 ≤ i
  · rw [if_pos h0]
    cases hk : K[i.toNat]? with
    | none => exact ⟨rfl, rfl, rfl, by decide⟩
    | some c => exact h c (List.mem_of_getElem? hk)
  · rw [if_neg h0]; exact ⟨rfl, rfl, rfl, by decide⟩
theorem ttell_long (v : Sl) (i : Int) (hl : 40 < v.n) (W : World) : Calls Try.prog 3 #[.slice v.p v.n v.c, .int .i64 i] W fun e w' => e = .returned (.bool true) ∧ Bl W w' := by
  have HW := works_any
  have d0 : decide ((v.n : Int) > 40) = true := decide_eq_true (by omega)
  go_enter Try.func3, Try.ntmps3
  go_wp2_with fail
  refine (HW _).mono ?_
  rintro e w1 ⟨rfl, k1⟩
  go_wp2_with fail
  go_ret
  exact ⟨rfl, k1⟩
theorem ttell_in (v : Sl) (ls : List (MaV × List Int × List Bool)) (i : Int) (w : World) (h : Mades w v ls) (hl : ls.length ≤ 40) : Calls Try.prog 3 #[.slice v.p v.n v.c, .int .i64 i] w fun e w' => e = .returned (.bool true) ∧ Bl w w' := by
  have HT := table_any v ls w h hl
  have hvn := h.row.n
  simp only [List.length_map] at hvn
  obtain ⟨vp, vn, vc⟩ := v
  simp only at hvn HT ⊢
  subst hvn
  have d0 : decide ((ls.length : Int) > 40) = false := decide_eq_false (by omega)
  have HWK := works_any
  clear h
  go_enter Try.func3, Try.ntmps3
  go_wp2_with fail
  refine HT.mono ?_
  rintro e w1 ⟨t, t2, K, L, L2, g, cap, g2, cap2, rfl, hTw, hK⟩
  have hLn : L.length = L2.length := by rw [← hTw.p.len, hTw.d.len]
  obtain ⟨n, hn⟩ : ∃ n, L2.length = n := ⟨_, rfl⟩
  have hn50 : n ≤ 50 := by rw [← hn, ← hTw.d.len]; exact hK
  have HN := Lib.hid (And.intro hLn hn)
  have HTW := Lib.hid hTw
  have HLEN := fun w2 (k : Bl w1 w2) => len_tab (hTw.on k).p.tab
  rw [hLn, hn] at HLEN
  have HSS : ∀ w', Bl w1 w' → (w'.cell? ⟨t2, 0, none⟩ = some (.slice (some ⟨g2, 0, none⟩) n cap2)) := fun w' z => by
    have c := (hTw.d.tab.on z).c0
    rw [hn] at c
    exact c
  clear hTw hLn hn HT
  go_upto_region 4 with fail
  refine region_l 11 (S := fun w' => w'.cell? ⟨t2, 0, none⟩ = some (.slice (some ⟨g2, 0, none⟩) n cap2)) (by kernel_rfl) ?_ (fun hHeld => ?_)
  · exact HSS _ (bl_drew w1)
  refine anyL_take (k := 12) (i := 0) (v := ?_) rfl (by kernel_rfl) (by kernel_rfl) (by kernel_rfl) (by kernel_rfl) (fun _ _ _ h => h) (Or.inl ⟨by rfl, ?_⟩) (by assumption) ?_
  rotate_left
  · intro w hSw; (try dsimp only at hSw); go_simp; try with_reducible rfl
  simp only [Act.put, List.setIfInBounds_toArray, List.set_cons_zero, List.set_cons_succ, List.getElem_toArray, List.getElem_cons_zero, List.getElem_cons_succ]
  refine anyL_take (k := 12) (i := 1) (v := ?_) rfl (by kernel_rfl) (by kernel_rfl) (by kernel_rfl) (by kernel_rfl) (fun _ _ _ h => h) (Or.inl ⟨by rfl, ?_⟩) (by assumption) ?_
  rotate_left
  · intro w hSw; (try dsimp only at hSw); go_simp; try with_reducible rfl
  simp only [Act.put, List.setIfInBounds_toArray, List.set_cons_zero, List.set_cons_succ, List.getElem_toArray, List.getElem_cons_zero, List.getElem_cons_succ]
  refine anyL_take (k := 12) (i := 2) (v := ?_) rfl (by kernel_rfl) (by kernel_rfl) (by kernel_rfl) (by kernel_rfl) (fun _ _ _ h => h) (Or.inl ⟨by rfl, ?_⟩) (by assumption) ?_
  rotate_left
  · intro w hSw; (try dsimp only at hSw); go_simp; try with_reducible rfl
  simp only [Act.put, List.setIfInBounds_toArray, List.set_cons_zero, List.set_cons_succ, List.getElem_toArray, List.getElem_cons_zero, List.getElem_cons_succ]
  refine anyL_take (k := 12) (i := 3) (v := ?_) rfl (by kernel_rfl) (by kernel_rfl) (by kernel_rfl) (by kernel_rfl) (fun _ _ _ h => h) (Or.inl ⟨by rfl, ?_⟩) (by assumption) ?_
  rotate_left
  · intro w hSw; (try dsimp only at hSw); go_simp; try with_reducible rfl
  simp only [Act.put, List.setIfInBounds_toArray, List.set_cons_zero, List.set_cons_succ, List.getElem_toArray, List.getElem_cons_zero, List.getElem_cons_succ]
  refine anyL_take (k := 12) (i := 5) (v := ?_) rfl (by kernel_rfl) (by kernel_rfl) (by kernel_rfl) (by kernel_rfl) (fun _ _ _ h => h) (Or.inl ⟨by rfl, ?_⟩) (by assumption) ?_
  rotate_left
  · intro w hSw; (try dsimp only at hSw); go_simp; try with_reducible rfl
  simp only [Act.put, List.setIfInBounds_toArray, List.set_cons_zero, List.set_cons_succ, List.getElem_toArray, List.getElem_cons_zero, List.getElem_cons_succ]
  refine anyL_take (k := 12) (i := 6) (v := ?_) rfl (by kernel_rfl) (by kernel_rfl) (by kernel_rfl) (by kernel_rfl) (fun _ _ _ h => h) (Or.inl ⟨by rfl, ?_⟩) (by assumption) ?_
  rotate_left
  · intro w hSw; (try dsimp only at hSw); go_simp; try with_reducible rfl
  simp only [Act.put, List.setIfInBounds_toArray, List.set_cons_zero, List.set_cons_succ, List.getElem_toArray, List.getElem_cons_zero, List.getElem_cons_succ]
  refine anyL_take (k := 12) (i := 7) (v := ?_) rfl (by kernel_rfl) (by kernel_rfl) (by kernel_rfl) (by kernel_rfl) (fun _ _ _ h => h) (Or.inl ⟨by rfl, ?_⟩) (by assumption) ?_
  rotate_left
  · intro w hSw; (try dsimp only at hSw); go_simp; try with_reducible rfl
  simp only [Act.put, List.setIfInBounds_toArray, List.set_cons_zero, List.set_cons_succ, List.getElem_toArray, List.getElem_cons_zero, List.getElem_cons_succ]
  refine anyL_take (k := 12) (i := 8) (v := ?_) rfl (by kernel_rfl) (by kernel_rfl) (by kernel_rfl) (by kernel_rfl) (fun _ _ _ h => h) (Or.inl ⟨by rfl, ?_⟩) (by assumption) ?_
  rotate_left
  · intro w hSw; (try dsimp only at hSw); go_simp; try with_reducible rfl
  simp only [Act.put, List.setIfInBounds_toArray, List.set_cons_zero, List.set_cons_succ, List.getElem_toArray, List.getElem_cons_zero, List.getElem_cons_succ]
  refine anyL_take (k := 12) (i := 9) (v := ?_) rfl (by kernel_rfl) (by kernel_rfl) (by kernel_rfl) (by kernel_rfl) (fun _ _ _ h => h) (Or.inl ⟨by rfl, ?_⟩) (by assumption) ?_
  rotate_left
  · intro w hSw; (try dsimp only at hSw); go_simp; try with_reducible rfl
  simp only [Act.put, List.setIfInBounds_toArray, List.set_cons_zero, List.set_cons_succ, List.getElem_toArray, List.getElem_cons_zero, List.getElem_cons_succ]
  refine anyL_ready (rs := [4]) (by kernel_rfl) (by simp) ?_
  refine AllL.cons rfl (fun K hK => ?_) ?_
  rotate_left
  · exact AllL.nil
  go_simp
  refine (HLEN _ (bl_drew w1)).mono ?_
  rintro e w2 ⟨rfl, k2⟩
  have K2 := (bl_drew w1).on k2
  have H9 := HSS w2 K2
  go_wp2_with fail
  refine hK.out _ _ (H9) (fun hHeld => ?_)
  clear hK K
  try simp only [Act.put, List.setIfInBounds_toArray, List.set_cons_zero, List.set_cons_succ, List.getElem_toArray, List.getElem_cons_zero, List.getElem_cons_succ]
  refine anyL_take (k := 12) (i := 10) (v := ?_) rfl (by kernel_rfl) (by kernel_rfl) (by kernel_rfl) (by kernel_rfl) (fun _ _ _ h => h) (Or.inl ⟨by rfl, ?_⟩) (by assumption) ?_
  rotate_left
  · intro w hSw; (try dsimp only at hSw); go_simp; try with_reducible rfl
  simp only [Act.put, List.setIfInBounds_toArray, List.set_cons_zero, List.set_cons_succ, List.getElem_toArray, List.getElem_cons_zero, List.getElem_cons_succ]
  refine anyL_ready (rs := [11]) (by kernel_rfl) (by simp) ?_
  refine AllL.last rfl (by kernel_rfl) (fun K hK => ?_) ?_
  rotate_left
  · exact AllL.nil
  go_simp
  refine hK.out _ _ ?_
  clear hK K
  try simp only [Act.put, List.setIfInBounds_toArray, List.set_cons_zero, List.set_cons_succ, List.getElem_toArray, List.getElem_cons_zero, List.getElem_cons_succ]
  refine anyL_done (by kernel_rfl) ?_ _
  have HK2 := Lib.hid K2
  clear H9 hHeld k2 K2 HLEN HSS
  go_wp2_with fail
  go_loopw [7] (fun s wr => ∃ k : Nat, k ≤ n + 2 ∧ s = .int .i64 ((k : Int) - 1) ∧ Bl w1 wr) (fun s _ => n + 2 - ((intOf s) + 1).toNat)
  case atStart => exact ⟨0, Nat.zero_le _, rfl, HK2.out⟩
  case round =>
    obtain ⟨k, hk, rfl, hB⟩ := hrel
    have HB := Lib.hid hB
    have hc := (HTW.out.on hB).d.tab.c0
    rw [HN.out.2] at hc
    clear hB HK2
    by_cases hlt : k < n + 2
    · have d1 : decide ((k : Int) - 1 ≤ (n : Int)) = true := decide_eq_true (by omega)
      by_cases hz : k = 0
      · have d2 : decide ((k : Int) - 1 < 0) = true := decide_eq_true (by omega)
        clear hz
        have HR := fun w' (z : Bl w1 w') => range_any (HTW.out.on z).p.tab i ((HTW.out.on z).p.kinds _)
        have HO := fun w' (z : Bl w1 w') => dord_any (HTW.out.on z).d.tab i
        have HQ := fun w' (z : Bl w1 w') => drange_any (HTW.out.on z).d.tab i
        have HG := fun w' (z : Bl w1 w') => get_any (HTW.out.on z).p i
        have HD := fun w' (z : Bl w1 w') => dget_any (HTW.out.on z).d.tab i
        have HS := fun w' (z : Bl w1 w') (y : TyV) (hy : Has w' 0 y (atK K i)) => same_any y (atP L2 i) (atK K i) w' hy ((HTW.out.on z).d.at i) (flat_at HTW.out.f i)
        have HA := fun w' (z : Bl w1 w') => base_any (HTW.out.on z).p.tab i
        have HA2 := fun w' (z : Bl w1 w') => dbase_any (HTW.out.on z).d.tab i
        have HP := fun w' (z : Bl w1 w') => tordinal_any (HTW.out.on z).p.tab i ((HTW.out.on z).p.kinds _)
        have HM := fun w' (z : Bl w1 w') => number_any (HTW.out.on z).p.tab i
        have HM2 := fun w' (z : Bl w1 w') => dnum_any (HTW.out.on z).d.tab i
        have AG := agree HTW.out
        have e1 := ag_ord AG i
        have e2 := ord_is L i
        have e3 := range_is L i
        have e4 := range_no L i
        rw [e1] at e3 e4
        rw [ag_range AG i] at e3
        rw [e1] at e2
        rw [← ag_base AG i] at HA2
        rw [← ag_num AG i] at HM2
        rw [← e2] at HP
        obtain ⟨q, hq⟩ : ∃ q, rangeP L i = q := ⟨_, rfl⟩
        obtain ⟨q2, hq2⟩ : ∃ q, rangeD L2 i = q := ⟨_, rfl⟩
        obtain ⟨o, ho⟩ : ∃ o, ordD L2 i = o := ⟨_, rfl⟩
        obtain ⟨b, hb⟩ : ∃ b, baseP L i = b := ⟨_, rfl⟩
        obtain ⟨m, hm⟩ : ∃ m, numP L i = m := ⟨_, rfl⟩
        obtain ⟨x, hx⟩ : ∃ x, atP L2 i = x := ⟨_, rfl⟩
        rw [hq] at HR e2 e3 e4
        rw [hq2] at HQ e3
        rw [ho] at HO HP e2 e3 e4
        rw [hb] at HA HA2
        rw [hm] at HM HM2
        rw [hx] at HD HS
        obtain ⟨q1, q3, q4⟩ := q
        obtain ⟨p1, p3⟩ := q2
        simp only at HR HQ HP e2 e3 e4
        subst e2
        clear AG e1 hq hq2 ho hb hm hx
        cases o
        · obtain ⟨rfl, rfl, -⟩ : (q1 = 0 ∧ q3 = 0 ∧ True) := by have := e4 rfl; simp only [Prod.mk.injEq] at this; exact ⟨this.1, this.2.1, trivial⟩
          clear e3 e4 HQ
          go_wp2_with fail
          refine (HR _ (HB.out)).mono ?_
          rintro e v0 ⟨rfl, kk⟩
          have K0 := (HB.out).on kk
          clear kk
          go_wp2_with fail
          refine (HO _ (K0)).mono ?_
          rintro e v1 ⟨rfl, kk⟩
          have K1 := (K0).on kk
          clear kk
          clear K0
          go_wp2_with fail
          refine (HG _ (K1)).mono ?_
          rintro e v2 ⟨y, rfl, kk, hY⟩
          have K2 := (K1).on kk
          have hY := hY.low (Nat.zero_le _)
          clear kk
          clear K1
          go_wp2_with fail
          refine (HD _ (K2)).mono ?_
          rintro e v3 ⟨rfl, kk⟩
          have K3 := (K2).on kk
          have hY := Lib.hid (hY.on kk)
          clear kk
          clear K2
          go_wp2_with fail
          refine (HS _ (K3) y hY.out).mono ?_
          rintro e v4 ⟨rfl, kk⟩
          have K4 := (K3).on kk
          clear kk
          clear K3
          go_wp2_with fail
          refine (HA _ (K4)).mono ?_
          rintro e v5 ⟨rfl, kk⟩
          have K5 := (K4).on kk
          clear kk
          clear K4
          go_wp2_with fail
          refine (HA2 _ (K5)).mono ?_
          rintro e v6 ⟨rfl, kk⟩
          have K6 := (K5).on kk
          clear kk
          clear K5
          go_wp2_with fail
          refine (HP _ (K6)).mono ?_
          rintro e v7 ⟨rfl, kk⟩
          have K7 := (K6).on kk
          clear kk
          clear K6
          go_wp2_with fail
          refine (HO _ (K7)).mono ?_
          rintro e v8 ⟨rfl, kk⟩
          have K8 := (K7).on kk
          clear kk
          clear K7
          go_wp2_with fail
          refine (HM _ (K8)).mono ?_
          rintro e v9 ⟨rfl, kk⟩
          have K9 := (K8).on kk
          clear kk
          clear K8
          go_wp2_with fail
          refine (HM2 _ (K9)).mono ?_
          rintro e v10 ⟨rfl, kk⟩
          have K10 := (K9).on kk
          clear kk
          clear K9
          go_wp2_with fail
          refine (HO _ (K10)).mono ?_
          rintro e v11 ⟨rfl, kk⟩
          have K11 := (K10).on kk
          clear kk
          clear K10
          have HE := Lib.hid K11
          clear K11
          go_wp2_with fail
          go_roundw
          case rel =>
            exact ⟨k + 1, by omega, by simp <;> omega, HE.out.on ⟨rfl, rfl, rfl, Nat.le_refl _, fun _ _ => rfl⟩⟩
          case measure => simp [intOf]; omega
        · obtain ⟨rfl, rfl⟩ := e3 rfl
          clear e4
          go_wp2_with fail
          refine (HR _ (HB.out)).mono ?_
          rintro e v0 ⟨rfl, kk⟩
          have K0 := (HB.out).on kk
          clear kk
          go_wp2_with fail
          refine (HO _ (K0)).mono ?_
          rintro e v1 ⟨rfl, kk⟩
          have K1 := (K0).on kk
          clear kk
          clear K0
          go_wp2_with fail
          refine (HQ _ (K1)).mono ?_
          rintro e v2 ⟨rfl, kk⟩
          have K2 := (K1).on kk
          clear kk
          clear K1
          go_wp2_with fail
          refine (HG _ (K2)).mono ?_
          rintro e v3 ⟨y, rfl, kk, hY⟩
          have K3 := (K2).on kk
          have hY := hY.low (Nat.zero_le _)
          clear kk
          clear K2
          go_wp2_with fail
          refine (HD _ (K3)).mono ?_
          rintro e v4 ⟨rfl, kk⟩
          have K4 := (K3).on kk
          have hY := Lib.hid (hY.on kk)
          clear kk
          clear K3
          go_wp2_with fail
          refine (HS _ (K4) y hY.out).mono ?_
          rintro e v5 ⟨rfl, kk⟩
          have K5 := (K4).on kk
          clear kk
          clear K4
          go_wp2_with fail
          refine (HA _ (K5)).mono ?_
          rintro e v6 ⟨rfl, kk⟩
          have K6 := (K5).on kk
          clear kk
          clear K5
          go_wp2_with fail
          refine (HA2 _ (K6)).mono ?_
          rintro e v7 ⟨rfl, kk⟩
          have K7 := (K6).on kk
          clear kk
          clear K6
          go_wp2_with fail
          refine (HP _ (K7)).mono ?_
          rintro e v8 ⟨rfl, kk⟩
          have K8 := (K7).on kk
          clear kk
          clear K7
          go_wp2_with fail
          refine (HO _ (K8)).mono ?_
          rintro e v9 ⟨rfl, kk⟩
          have K9 := (K8).on kk
          clear kk
          clear K8
          go_wp2_with fail
          refine (HM _ (K9)).mono ?_
          rintro e v10 ⟨rfl, kk⟩
          have K10 := (K9).on kk
          clear kk
          clear K9
          go_wp2_with fail
          refine (HM2 _ (K10)).mono ?_
          rintro e v11 ⟨rfl, kk⟩
          have K11 := (K10).on kk
          clear kk
          clear K10
          go_wp2_with fail
          refine (HO _ (K11)).mono ?_
          rintro e v12 ⟨rfl, kk⟩
          have K12 := (K11).on kk
          clear kk
          clear K11
          have HE := Lib.hid K12
          clear K12
          go_wp2_with fail
          go_roundw
          case rel =>
            exact ⟨k + 1, by omega, by simp <;> omega, HE.out.on ⟨rfl, rfl, rfl, Nat.le_refl _, fun _ _ => rfl⟩⟩
          case measure => simp [intOf]; omega
      · have d2 : decide ((k : Int) - 1 < 0) = false := decide_eq_false (by omega)
        obtain ⟨j, hj⟩ : ∃ j : Int, (k : Int) - 1 = j := ⟨_, rfl⟩
        have HR := fun w' (z : Bl w1 w') => range_any (HTW.out.on z).p.tab j ((HTW.out.on z).p.kinds _)
        have HO := fun w' (z : Bl w1 w') => dord_any (HTW.out.on z).d.tab j
        have HQ := fun w' (z : Bl w1 w') => drange_any (HTW.out.on z).d.tab j
        have HG := fun w' (z : Bl w1 w') => get_any (HTW.out.on z).p j
        have HD := fun w' (z : Bl w1 w') => dget_any (HTW.out.on z).d.tab j
        have HS := fun w' (z : Bl w1 w') (y : TyV) (hy : Has w' 0 y (atK K j)) => same_any y (atP L2 j) (atK K j) w' hy ((HTW.out.on z).d.at j) (flat_at HTW.out.f j)
        have HA := fun w' (z : Bl w1 w') => base_any (HTW.out.on z).p.tab j
        have HA2 := fun w' (z : Bl w1 w') => dbase_any (HTW.out.on z).d.tab j
        have HP := fun w' (z : Bl w1 w') => tordinal_any (HTW.out.on z).p.tab j ((HTW.out.on z).p.kinds _)
        have HM := fun w' (z : Bl w1 w') => number_any (HTW.out.on z).p.tab j
        have HM2 := fun w' (z : Bl w1 w') => dnum_any (HTW.out.on z).d.tab j
        have AG := agree HTW.out
        have e1 := ag_ord AG j
        have e2 := ord_is L j
        have e3 := range_is L j
        have e4 := range_no L j
        rw [e1] at e3 e4
        rw [ag_range AG j] at e3
        rw [e1] at e2
        rw [← ag_base AG j] at HA2
        rw [← ag_num AG j] at HM2
        rw [← e2] at HP
        obtain ⟨q, hq⟩ : ∃ q, rangeP L j = q := ⟨_, rfl⟩
        obtain ⟨q2, hq2⟩ : ∃ q, rangeD L2 j = q := ⟨_, rfl⟩
        obtain ⟨o, ho⟩ : ∃ o, ordD L2 j = o := ⟨_, rfl⟩
        obtain ⟨b, hb⟩ : ∃ b, baseP L j = b := ⟨_, rfl⟩
        obtain ⟨m, hm⟩ : ∃ m, numP L j = m := ⟨_, rfl⟩
        obtain ⟨x, hx⟩ : ∃ x, atP L2 j = x := ⟨_, rfl⟩
        rw [hq] at HR e2 e3 e4
        rw [hq2] at HQ e3
        rw [ho] at HO HP e2 e3 e4
        rw [hb] at HA HA2
        rw [hm] at HM HM2
        rw [hx] at HD HS
        obtain ⟨q1, q3, q4⟩ := q
        obtain ⟨p1, p3⟩ := q2
        simp only at HR HQ HP e2 e3 e4
        subst e2
        clear AG e1 hq hq2 ho hb hm hx
        cases o
        · obtain ⟨rfl, rfl, -⟩ : (q1 = 0 ∧ q3 = 0 ∧ True) := by have := e4 rfl; simp only [Prod.mk.injEq] at this; exact ⟨this.1, this.2.1, trivial⟩
          clear e3 e4 HQ
          go_wp2_with fail
          refine (HR _ (HB.out)).mono ?_
          rintro e v0 ⟨rfl, kk⟩
          have K0 := (HB.out).on kk
          clear kk
          go_wp2_with fail
          refine (HO _ (K0)).mono ?_
          rintro e v1 ⟨rfl, kk⟩
          have K1 := (K0).on kk
          clear kk
          clear K0
          go_wp2_with fail
          refine (HG _ (K1)).mono ?_
          rintro e v2 ⟨y, rfl, kk, hY⟩
          have K2 := (K1).on kk
          have hY := hY.low (Nat.zero_le _)
          clear kk
          clear K1
          go_wp2_with fail
          refine (HD _ (K2)).mono ?_
          rintro e v3 ⟨rfl, kk⟩
          have K3 := (K2).on kk
          have hY := Lib.hid (hY.on kk)
          clear kk
          clear K2
          go_wp2_with fail
          refine (HS _ (K3) y hY.out).mono ?_
          rintro e v4 ⟨rfl, kk⟩
          have K4 := (K3).on kk
          clear kk
          clear K3
          go_wp2_with fail
          refine (HA _ (K4)).mono ?_
          rintro e v5 ⟨rfl, kk⟩
          have K5 := (K4).on kk
          clear kk
          clear K4
          go_wp2_with fail
          refine (HA2 _ (K5)).mono ?_
          rintro e v6 ⟨rfl, kk⟩
          have K6 := (K5).on kk
          clear kk
          clear K5
          go_wp2_with fail
          refine (HP _ (K6)).mono ?_
          rintro e v7 ⟨rfl, kk⟩
          have K7 := (K6).on kk
          clear kk
          clear K6
          go_wp2_with fail
          refine (HO _ (K7)).mono ?_
          rintro e v8 ⟨rfl, kk⟩
          have K8 := (K7).on kk
          clear kk
          clear K7
          go_wp2_with fail
          refine (HM _ (K8)).mono ?_
          rintro e v9 ⟨rfl, kk⟩
          have K9 := (K8).on kk
          clear kk
          clear K8
          go_wp2_with fail
          refine (HM2 _ (K9)).mono ?_
          rintro e v10 ⟨rfl, kk⟩
          have K10 := (K9).on kk
          clear kk
          clear K9
          go_wp2_with fail
          refine (HO _ (K10)).mono ?_
          rintro e v11 ⟨rfl, kk⟩
          have K11 := (K10).on kk
          clear kk
          clear K10
          have HE := Lib.hid K11
          clear K11
          go_wp2_with fail
          go_roundw
          case rel =>
            exact ⟨k + 1, by omega, by simp <;> omega, HE.out.on ⟨rfl, rfl, rfl, Nat.le_refl _, fun _ _ => rfl⟩⟩
          case measure => simp [intOf]; omega
        · obtain ⟨rfl, rfl⟩ := e3 rfl
          clear e4
          go_wp2_with fail
          refine (HR _ (HB.out)).mono ?_
          rintro e v0 ⟨rfl, kk⟩
          have K0 := (HB.out).on kk
          clear kk
          go_wp2_with fail
          refine (HO _ (K0)).mono ?_
          rintro e v1 ⟨rfl, kk⟩
          have K1 := (K0).on kk
          clear kk
          clear K0
          go_wp2_with fail
          refine (HQ _ (K1)).mono ?_
          rintro e v2 ⟨rfl, kk⟩
          have K2 := (K1).on kk
          clear kk
          clear K1
          go_wp2_with fail
          refine (HG _ (K2)).mono ?_
          rintro e v3 ⟨y, rfl, kk, hY⟩
          have K3 := (K2).on kk
          have hY := hY.low (Nat.zero_le _)
          clear kk
          clear K2
          go_wp2_with fail
          refine (HD _ (K3)).mono ?_
          rintro e v4 ⟨rfl, kk⟩
          have K4 := (K3).on kk
          have hY := Lib.hid (hY.on kk)
          clear kk
          clear K3
          go_wp2_with fail
          refine (HS _ (K4) y hY.out).mono ?_
          rintro e v5 ⟨rfl, kk⟩
          have K5 := (K4).on kk
          clear kk
          clear K4
          go_wp2_with fail
          refine (HA _ (K5)).mono ?_
          rintro e v6 ⟨rfl, kk⟩
          have K6 := (K5).on kk
          clear kk
          clear K5
          go_wp2_with fail
          refine (HA2 _ (K6)).mono ?_
          rintro e v7 ⟨rfl, kk⟩
          have K7 := (K6).on kk
          clear kk
          clear K6
          go_wp2_with fail
          refine (HP _ (K7)).mono ?_
          rintro e v8 ⟨rfl, kk⟩
          have K8 := (K7).on kk
          clear kk
          clear K7
          go_wp2_with fail
          refine (HO _ (K8)).mono ?_
          rintro e v9 ⟨rfl, kk⟩
          have K9 := (K8).on kk
          clear kk
          clear K8
          go_wp2_with fail
          refine (HM _ (K9)).mono ?_
          rintro e v10 ⟨rfl, kk⟩
          have K10 := (K9).on kk
          clear kk
          clear K9
          go_wp2_with fail
          refine (HM2 _ (K10)).mono ?_
          rintro e v11 ⟨rfl, kk⟩
          have K11 := (K10).on kk
          clear kk
          clear K10
          go_wp2_with fail
          refine (HO _ (K11)).mono ?_
          rintro e v12 ⟨rfl, kk⟩
          have K12 := (K11).on kk
          clear kk
          clear K11
          have HE := Lib.hid K12
          clear K12
          go_wp2_with fail
          go_roundw
          case rel =>
            exact ⟨k + 1, by omega, by simp <;> omega, HE.out.on ⟨rfl, rfl, rfl, Nat.le_refl _, fun _ _ => rfl⟩⟩
          case measure => simp [intOf]; omega
    · obtain rfl : k = n + 2 := by omega
      have d1 : decide (((n + 2 : Nat) : Int) - 1 ≤ (n : Int)) = false := decide_eq_false (by omega)
      go_wp2_with fail
      refine (HWK _).mono ?_
      rintro e w9 ⟨rfl, k9⟩
      go_wp2_with fail
      go_ret
      exact ⟨rfl, HTW.out.b.on (HB.out.on k9)⟩
end Go.Proofs.Ytepfknfadpkigaa
