/- Nodes of layer 6 with many kids, walked: calls, sets, labels. -/
import Derived.Test.YtldecbaaajmmcaaMeA
import Derived.Deep.AppendSrc
import Derived.Deep.RegionHeld3
namespace Go.Proofs.Ytldecbaaajmmcaa
open Go.RowKit
set_option maxHeartbeats 2000000
set_option maxRecDepth 100000
set_option linter.unusedVariables false
set_option linter.unusedSimpArgs false

theorem argL_own {w : World} {g n cap : Nat} {os : List (Option Tr)} (h : w.ownsRow 0 26 1 (.slice (some ⟨g, 0, none⟩) n cap) n (os.map fun o => encP (o.map Tr.p))) (hn : os.length = n) : ArgL w (.slice (some ⟨g, 0, none⟩) n cap) os := by
  refine ⟨_, cap, by rw [hn], fun i o hi => ?_⟩
  have hlt : i < os.length := (List.getElem?_eq_some_iff.1 hi).1
  refine ⟨g, rfl, (h.lt g rfl).2, ?_⟩
  rw [h.cellAt i (by omega), List.getElem?_map, hi]; rfl
theorem ls_vals (us : List Tr) : (us.map some).map (fun o => encP (o.map Tr.p)) = us.map fun t => ptrV t.p := by
  rw [List.map_map]; rfl
theorem LsAt.argL {w : World} {b : Nat} {v : Value} {us : List Tr} (h : LsAt w b v us) : ArgL w v (us.map some) := by
  rcases h.row.2 with ⟨h1, h2⟩ | ⟨g, cap, cur, h1, h2⟩
  · obtain rfl : us = [] := List.length_eq_zero_iff.1 h2
    rw [h1]
    exact argL0 w
  · have hr := h.row
    rw [h1] at hr ⊢
    exact argL_own (by rw [ls_vals]; exact hr) (by simp)
theorem ls_dts (us : List Tr) : (us.map some).map (fun o => (o.map Tr.dt).getD dt0) = us.map Tr.dt := by
  rw [List.map_map]; rfl
theorem enc_one (o : Option Tr) : ∀ u ∈ [encP (o.map Tr.p)], u.oneCell' = true := fun u hu => by
  simp at hu; subst hu; cases o <;> rfl
theorem kn_cell {w w' : World} {b : Nat} {T : TypeId} {v : Value} (h : Var w b T v) (hk : Kn w w') (hT : (T == 69 || T == 33 || T == 79) = true := by decide) : w'.cell? ⟨b, 0, none⟩ = some v := Var.c (T := T) (hk b _ h hT)
theorem app_nil (b : Nat) (ty : TypeId) (w : World) : (Builtin.append_ #[34, 34] ty #[.slice (some ⟨b, 0, none⟩) 1 1, .slice none 0 0]).run Try.prog w = .ok (.slice (some ⟨b, 0, none⟩) 1 1) w := by
  obtain ⟨i1, hi, hz0, hz1, hz2⟩ := info_parts infoP
  exact run_append_room_src w 34 34 ty 26 i1 Try.underlying34 hi b 0 1 1 (.slice none 0 0) 0 [] (by rw [hz1]; exact Src.ofNil w Try.underlying34 0) (by omega) (by simp) (by simp)
theorem ent_call107 : Enters 100 := ⟨_, _, Try.func100, by kernel_rfl, rfl⟩
theorem call107 (c : Cx) (bd bp bx j b : Nat) (done : FV) (Post : World → Prop) (t : TK) (o : Option Tr) (us : List Tr) (v : Value) (w : World) (pv : Value) (hX : RX c w j) (hbd : Var w bd 69 done.val) (hbp : Var w bp 33 pv) (hp : posV t.2.1.1 t.2.1.2 = pv)
    (hbx : Var w bx 26 (encP (o.map Tr.p))) (ho : ∀ x, o = some x → IsT w (b ≤ ·) x) (hv : LsAt w b v us) (hb : b ≤ w.heap.size)
    (hG : ∀ u w', Fr [] w w' → IsT w' (b ≤ ·) u → u.dt = .node (nd 10 t [] 0) ((o.map Tr.dt).getD dt0 :: us.map Tr.dt) → Goes c.B done (ptrV u.p) w' Post) :
    Calls Try.prog 100 #[v, pt bd, pt bp, pt bx] w (GP c.B Post w) := by
  obtain ⟨i1, hi, hz0, hz1, hz2⟩ := info_parts infoP
  obtain ⟨x1, y1, e1⟩ := posV_cx t.2.1.1 t.2.1.2
  rw [hp] at e1
  subst e1
  have cd := hbd.c
  have cp := hbp.c
  have cx := hbx.c
  obtain ⟨hq, hhq⟩ : ∃ hq, encP (o.map Tr.p) = .pointer hq := by cases o <;> exact ⟨_, rfl⟩
  rw [hhq] at cx
  obtain ⟨w1, hw1⟩ : ∃ w1, (w.alloc (.cells #[.pointer hq] 26)) = w1 := ⟨_, rfl⟩
  have F1 : Fr [] w w1 := by rw [← hw1]; exact Fr.alloc _ _
  have hc1 : w1.heap[w.heap.size]? = some (.cells #[.pointer hq] 26 (0, 0)) := by rw [← hw1]; exact heap_alloc_new _ _
  have own1 : w1.ownsRow 0 26 1 (.slice (some ⟨w.heap.size, 0, none⟩) 1 1) 1 [.pointer hq] :=
    ⟨rfl, .inr ⟨w.heap.size, 1, #[.pointer hq], rfl, Nat.zero_le _, hc1, by decide, by decide, rfl, rfl⟩⟩
  have HO := Lib.hid (And.intro hhq (And.intro hp (And.intro F1 (And.intro own1 (And.intro ho (And.intro hv hG))))))
  have hvl := hv.le
  have hs1 := F1.size
  have HVV := Lib.hid (And.intro hbd hbp)
  clear hX hbd hbp hbx hhq hp ho hG F1 own1 hc1
  simp only [pt]
  by_cases hn : us = []
  · subst hn
    obtain rfl : v = .slice none 0 0 := hv.nil rfl
    have HN1 := new_of w1.drew (nd 10 t [] 0) (.slice (some ⟨w.heap.size, 0, none⟩) 1 1) [o] b (argL_own (by
        have := own_keep HO.out.2.2.2.1 (Fr.drew w1) (by simp)
        rw [← HO.out.1] at this
        exact this) rfl) (by simp) (fun x hx => by
        have : o = some x := by simpa [eq_comm] using hx
        exact ((HO.out.2.2.2.2.1 x this).fr HO.out.2.2.1 (by simp)).fr (Fr.drew w1) (by simp)) (by show b ≤ w1.heap.size; omega) (by simp [nd]) _ HO.out.2.1 ⟨#[]⟩ rfl 10 rfl 0 rfl [(o.map Tr.dt).getD dt0] rfl
    have hap := app_nil
    have cd1 := HO.out.2.2.1.cellE cd
    have cp1 := HO.out.2.2.1.cellE cp
    have HNH := Lib.hid HN1
    have HBX := Lib.hid (And.intro HO.out.2.2.1 HO.out.2.2.2.2.2.2)
    clear hv HN1
    go_enter Try.func100, Try.ntmps100
    go_wp2_with fail
    refine wp_region_held_drew (S := fun w' => w'.cell? ⟨bd, 0, none⟩ = some (.func (.func done.f) done.first done.caps) ∧ w'.cell? ⟨bp, 0, none⟩ = some (.complex .f64 x1 y1)) (by kernel_rfl) ?_ (fun hHeld => ?_)
    · exact ⟨cd, cp⟩
    refine wpAnyH_take (i := 0) (v := ?_) rfl (by kernel_rfl) (by kernel_rfl) (by kernel_rfl) (fun _ _ _ h => h) (Or.inl ⟨by rfl, ?_⟩) (by assumption) ?_
    rotate_left
    · intro w hSw; (try dsimp only at hSw); go_simp; try with_reducible rfl
    simp only [Act.put, List.setIfInBounds_toArray, List.set_cons_zero, List.set_cons_succ, List.getElem_toArray, List.getElem_cons_zero, List.getElem_cons_succ]
    refine wpAnyH_take (i := 1) (v := ?_) rfl (by kernel_rfl) (by kernel_rfl) (by kernel_rfl) (fun _ _ _ h => h) (Or.inl ⟨by rfl, ?_⟩) (by assumption) ?_
    rotate_left
    · intro w hSw; (try dsimp only at hSw); go_simp; try with_reducible rfl
    simp only [Act.put, List.setIfInBounds_toArray, List.set_cons_zero, List.set_cons_succ, List.getElem_toArray, List.getElem_cons_zero, List.getElem_cons_succ]
    refine wpAnyH_take (i := 4) (v := ?_) rfl (by kernel_rfl) (by kernel_rfl) (by kernel_rfl) (fun _ _ _ h => h) (Or.inl ⟨by rfl, ?_⟩) (by assumption) ?_
    rotate_left
    · intro w hSw; (try dsimp only at hSw); go_simp; try with_reducible rfl
    simp only [Act.put, List.setIfInBounds_toArray, List.set_cons_zero, List.set_cons_succ, List.getElem_toArray, List.getElem_cons_zero, List.getElem_cons_succ]
    refine wpAnyH_ready (rs := [2]) (by kernel_rfl) (by simp) ?_
    refine AllReadyH.cons rfl (fun K hK => ?_) ?_
    rotate_left
    · exact AllReadyH.nil
    go_simp
    refine hK.out _ _ (hHeld) (fun hHeld => ?_)
    clear hK K
    try simp only [Act.put, List.setIfInBounds_toArray, List.set_cons_zero, List.set_cons_succ, List.getElem_toArray, List.getElem_cons_zero, List.getElem_cons_succ]
    refine wpAnyH_ready (rs := [3]) (by kernel_rfl) (by simp) ?_
    refine AllReadyH.cons rfl (fun K hK => ?_) ?_
    rotate_left
    · exact AllReadyH.nil
    go_simp
    refine hK.out _ _ (⟨cd1, cp1⟩) (fun hHeld => ?_)
    clear hK K
    try simp only [Act.put, List.setIfInBounds_toArray, List.set_cons_zero, List.set_cons_succ, List.getElem_toArray, List.getElem_cons_zero, List.getElem_cons_succ]
    refine wpAnyH_ready (rs := [5]) (by kernel_rfl) (by simp) ?_
    refine AllReadyH.cons rfl (fun K hK => ?_) ?_
    rotate_left
    · exact AllReadyH.nil
    go_simp
    refine hK.out _ _ (⟨cd1, cp1⟩) (fun hHeld => ?_)
    clear hK K
    try simp only [Act.put, List.setIfInBounds_toArray, List.set_cons_zero, List.set_cons_succ, List.getElem_toArray, List.getElem_cons_zero, List.getElem_cons_succ]
    refine wpAnyH_ready (rs := [6]) (by kernel_rfl) (by simp) ?_
    refine AllReadyH.cons rfl (fun K hK => ?_) ?_
    rotate_left
    · exact AllReadyH.nil
    go_simp
    refine HNH.out.mono ?_
    rintro e w3 ⟨u, rfl, F3, hu, hud⟩
    have FF := (HBX.out.1.trans (Fr.drew w1) (by simp)).trans F3 (by simp)
    obtain ⟨hE, hC⟩ := HBX.out.2 u w3 FF hu hud
    have hRn := run_enters hE
    have HK := Lib.hid (Kn.fr0 FF)
    have cd3 := FF.cellE cd
    have cp3 := FF.cellE cp
    clear hE FF F3 hu hud
    simp only [ptrV] at hC ⊢
    go_wp2_with fail
    refine hK.out _ _ (⟨cd3, cp3⟩) (fun hHeld => ?_)
    clear hK K
    try simp only [Act.put, List.setIfInBounds_toArray, List.set_cons_zero, List.set_cons_succ, List.getElem_toArray, List.getElem_cons_zero, List.getElem_cons_succ]
    refine wpAnyH_ready (rs := [7]) (by kernel_rfl) (by simp) ?_
    refine AllReadyH.cons rfl (fun K hK => ?_) ?_
    rotate_left
    · exact AllReadyH.nil
    go_simp
    refine hC.mono ?_
    rintro e w4 ⟨s, rfl, hk2, hr⟩
    have cd4 := kn_cell HVV.out.1 (HK.out.trans hk2)
    have cp4 := kn_cell HVV.out.2 (HK.out.trans hk2)
    go_wp2_with fail
    refine hK.out _ _ (⟨cd4, cp4⟩) (fun hHeld => ?_)
    clear hK K
    try simp only [Act.put, List.setIfInBounds_toArray, List.set_cons_zero, List.set_cons_succ, List.getElem_toArray, List.getElem_cons_zero, List.getElem_cons_succ]
    refine wpAnyH_take (i := 8) (v := ?_) rfl (by kernel_rfl) (by kernel_rfl) (by kernel_rfl) (fun _ _ _ h => h) (Or.inl ⟨by rfl, ?_⟩) (by assumption) ?_
    rotate_left
    · intro w hSw; (try dsimp only at hSw); go_simp; try with_reducible rfl
    simp only [Act.put, List.setIfInBounds_toArray, List.set_cons_zero, List.set_cons_succ, List.getElem_toArray, List.getElem_cons_zero, List.getElem_cons_succ]
    refine wpAnyH_done (by kernel_rfl) ?_ _
    go_wp2_with fail
    go_ret
    exact gp_ret (HK.out.trans hk2) hr
  · obtain ⟨n, hnl⟩ : ∃ n, us.length = n := ⟨_, rfl⟩
    have hn0 : 0 < n := by have := List.length_pos_iff.2 hn; omega
    obtain ⟨g, cap, hvg, _, _⟩ := hv.row.form (by omega)
    rw [hnl] at hvg hvl
    subst hvg
    have hbg : g < w.heap.size := (hv.row.lt g rfl).2
    have hnews : ∀ j u, (us.map fun t => ptrV t.p)[j]? = some u → w1.drew.cell? ((⟨g, 0, none⟩ : Addr).add j) = some u := fun j u hj => by
      have h8 := World.ownsRow.cells hv.row (g := g) rfl j u hj
      exact (HO.out.2.2.1.trans (Fr.drew w1) (by simp)).cellE h8
    have hone : ∀ u ∈ (us.map fun t => ptrV t.p), u.oneCell' = true := fun u hu => by
      obtain ⟨t, _, rfl⟩ := List.mem_map.1 hu
      rfl
    have hmk : ∀ (w9 : World) (g9 cap9 : Nat), Fr [] w w9 → w9.ownsRow 0 26 1 (.slice (some ⟨g9, 0, none⟩) (1 + n) cap9) (1 + n) ([.pointer hq] ++ us.map fun t => ptrV t.p) →
        Calls Try.prog 52 #[.int .u8 10, .complex .f64 x1 y1, .string ⟨#[]⟩, .int .i64 0, .slice (some ⟨g9, 0, none⟩) (1 + n) cap9] w9 fun e w' => ∃ u, e = .returned (ptrV u.p) ∧ Fr [] w9 w' ∧ IsT w' (b ≤ ·) u ∧ u.dt = .node (nd 10 t [] 0) ((o.map Tr.dt).getD dt0 :: us.map Tr.dt) := fun w9 g9 cap9 F9 hown => by
      refine new_of w9 (nd 10 t [] 0) _ (o :: us.map some) b (argL_own ?_ (by simp [hnl]; omega)) (by simp [hnl]; omega) (fun x hx => ?_) (by have := F9.size; omega) (by simp [nd]) _ HO.out.2.1 ⟨#[]⟩ rfl 10 rfl 0 rfl _ ?_
      · rw [List.map_cons, ls_vals, HO.out.1]
        exact hown
      · rcases List.mem_cons.1 hx with h | h
        · exact (HO.out.2.2.2.2.1 x h.symm).fr F9 (by simp)
        · obtain ⟨x', hx', e⟩ := List.mem_map.1 h
          obtain rfl : x' = x := Option.some.inj e
          exact (HO.out.2.2.2.2.2.1.t x' hx').fr F9 (by simp)
      · rw [List.map_cons, ls_dts]
    have cd1 := HO.out.2.2.1.cellE cd
    have cp1 := HO.out.2.2.1.cellE cp
    have hown1 := own_keep HO.out.2.2.2.1 (Fr.drew w1) (by simp)
    have HBX := Lib.hid (And.intro HO.out.2.2.1 (And.intro hown1 (And.intro hnl (And.intro hnews (And.intro hone (And.intro hmk HO.out.2.2.2.2.2.2))))))
    clear hv hown1 hnews hone hmk hn hnl HO
    go_enter Try.func100, Try.ntmps100
    go_wp2_with fail
    refine wp_region_held_drew (S := fun w' => w'.cell? ⟨bd, 0, none⟩ = some (.func (.func done.f) done.first done.caps) ∧ w'.cell? ⟨bp, 0, none⟩ = some (.complex .f64 x1 y1)) (by kernel_rfl) ?_ (fun hHeld => ?_)
    · exact ⟨cd, cp⟩
    refine wpAnyH_take (i := 0) (v := ?_) rfl (by kernel_rfl) (by kernel_rfl) (by kernel_rfl) (fun _ _ _ h => h) (Or.inl ⟨by rfl, ?_⟩) (by assumption) ?_
    rotate_left
    · intro w hSw; (try dsimp only at hSw); go_simp; try with_reducible rfl
    simp only [Act.put, List.setIfInBounds_toArray, List.set_cons_zero, List.set_cons_succ, List.getElem_toArray, List.getElem_cons_zero, List.getElem_cons_succ]
    refine wpAnyH_take (i := 1) (v := ?_) rfl (by kernel_rfl) (by kernel_rfl) (by kernel_rfl) (fun _ _ _ h => h) (Or.inl ⟨by rfl, ?_⟩) (by assumption) ?_
    rotate_left
    · intro w hSw; (try dsimp only at hSw); go_simp; try with_reducible rfl
    simp only [Act.put, List.setIfInBounds_toArray, List.set_cons_zero, List.set_cons_succ, List.getElem_toArray, List.getElem_cons_zero, List.getElem_cons_succ]
    refine wpAnyH_take (i := 4) (v := ?_) rfl (by kernel_rfl) (by kernel_rfl) (by kernel_rfl) (fun _ _ _ h => h) (Or.inl ⟨by rfl, ?_⟩) (by assumption) ?_
    rotate_left
    · intro w hSw; (try dsimp only at hSw); go_simp; try with_reducible rfl
    simp only [Act.put, List.setIfInBounds_toArray, List.set_cons_zero, List.set_cons_succ, List.getElem_toArray, List.getElem_cons_zero, List.getElem_cons_succ]
    refine wpAnyH_ready (rs := [2]) (by kernel_rfl) (by simp) ?_
    refine AllReadyH.cons rfl (fun K hK => ?_) ?_
    rotate_left
    · exact AllReadyH.nil
    go_simp
    refine hK.out _ _ (hHeld) (fun hHeld => ?_)
    clear hK K
    try simp only [Act.put, List.setIfInBounds_toArray, List.set_cons_zero, List.set_cons_succ, List.getElem_toArray, List.getElem_cons_zero, List.getElem_cons_succ]
    refine wpAnyH_ready (rs := [3]) (by kernel_rfl) (by simp) ?_
    refine AllReadyH.cons rfl (fun K hK => ?_) ?_
    rotate_left
    · exact AllReadyH.nil
    go_simp
    refine hK.out _ _ (⟨cd1, cp1⟩) (fun hHeld => ?_)
    clear hK K
    try simp only [Act.put, List.setIfInBounds_toArray, List.set_cons_zero, List.set_cons_succ, List.getElem_toArray, List.getElem_cons_zero, List.getElem_cons_succ]
    refine wpAnyH_ready (rs := [5]) (by kernel_rfl) (by simp) ?_
    refine AllReadyH.cons rfl (fun K hK => ?_) ?_
    rotate_left
    · exact AllReadyH.nil
    refine step_append_lies _ (by rfl) _ _ _ (by rfl) 0 26 i1 (.pointer none) 1 8 Try.underlying34 hi hz0 hz1 hz2 (by rfl) (by decide) (.slice (some ⟨w.heap.size, 0, none⟩) 1 1) 1 [.pointer hq] (by rfl) HBX.out.2.1 ⟨g, 0, none⟩ n cap (us.map fun t => ptrV t.p) (by rfl) (by simp [HBX.out.2.2.1]) HBX.out.2.2.2.1 HBX.out.2.2.2.2.1 (by omega) (by unfold maxLen; omega) (by omega) (Nat.zero_le _) w1.heap.size rfl ?_
    intro g9 cap9 w9 hown9 hgrow hat hlt9
    have F9 : Fr [] w w9 := (HBX.out.1.trans (Fr.drew w1) (by simp)).trans (Fr.of_grown hgrow) (fun j hj => .inr (by simp [Value.ownBlock] at hj; omega))
    have cd9 := F9.cellE cd
    have cp9 := F9.cellE cp
    have HN := HBX.out.2.2.2.2.2.1 w9 g9 cap9 F9 hown9
    have H9 := Lib.hid F9
    clear hown9 hgrow hat hlt9 F9
    refine hK.out _ _ (⟨cd9, cp9⟩) (fun hHeld => ?_)
    clear hK K
    try simp only [Act.put, List.setIfInBounds_toArray, List.set_cons_zero, List.set_cons_succ, List.getElem_toArray, List.getElem_cons_zero, List.getElem_cons_succ]
    refine wpAnyH_ready (rs := [6]) (by kernel_rfl) (by simp) ?_
    refine AllReadyH.cons rfl (fun K hK => ?_) ?_
    rotate_left
    · exact AllReadyH.nil
    go_simp
    refine HN.mono ?_
    rintro e w3 ⟨u, rfl, F3, hu, hud⟩
    have FF := H9.out.trans F3 (by simp)
    obtain ⟨hE, hC⟩ := HBX.out.2.2.2.2.2.2 u w3 FF hu hud
    have hRn := run_enters hE
    have HK := Lib.hid (Kn.fr0 FF)
    have cd3 := FF.cellE cd
    have cp3 := FF.cellE cp
    clear hE FF F3 hu hud HN
    simp only [ptrV] at hC ⊢
    go_wp2_with fail
    refine hK.out _ _ (⟨cd3, cp3⟩) (fun hHeld => ?_)
    clear hK K
    try simp only [Act.put, List.setIfInBounds_toArray, List.set_cons_zero, List.set_cons_succ, List.getElem_toArray, List.getElem_cons_zero, List.getElem_cons_succ]
    refine wpAnyH_ready (rs := [7]) (by kernel_rfl) (by simp) ?_
    refine AllReadyH.cons rfl (fun K hK => ?_) ?_
    rotate_left
    · exact AllReadyH.nil
    go_simp
    refine hC.mono ?_
    rintro e w4 ⟨s, rfl, hk2, hr⟩
    have cd4 := kn_cell HVV.out.1 (HK.out.trans hk2)
    have cp4 := kn_cell HVV.out.2 (HK.out.trans hk2)
    go_wp2_with fail
    refine hK.out _ _ (⟨cd4, cp4⟩) (fun hHeld => ?_)
    clear hK K
    try simp only [Act.put, List.setIfInBounds_toArray, List.set_cons_zero, List.set_cons_succ, List.getElem_toArray, List.getElem_cons_zero, List.getElem_cons_succ]
    refine wpAnyH_take (i := 8) (v := ?_) rfl (by kernel_rfl) (by kernel_rfl) (by kernel_rfl) (fun _ _ _ h => h) (Or.inl ⟨by rfl, ?_⟩) (by assumption) ?_
    rotate_left
    · intro w hSw; (try dsimp only at hSw); go_simp; try with_reducible rfl
    simp only [Act.put, List.setIfInBounds_toArray, List.set_cons_zero, List.set_cons_succ, List.getElem_toArray, List.getElem_cons_zero, List.getElem_cons_succ]
    refine wpAnyH_done (by kernel_rfl) ?_ _
    go_wp2_with fail
    go_ret
    exact gp_ret (HK.out.trans hk2) hr
theorem ent_set104 : Enters 97 := ⟨_, _, Try.func97, by kernel_rfl, rfl⟩
theorem set104 (c : Cx) (bd bp bx j b : Nat) (done : FV) (Post : World → Prop) (t : TK) (o : Option Tr) (us : List Tr) (v : Value) (w : World) (pv : Value) (hX : RX c w j) (hbd : Var w bd 69 done.val) (hbp : Var w bp 33 pv) (hp : posV t.2.1.1 t.2.1.2 = pv)
    (hbx : Var w bx 26 (encP (o.map Tr.p))) (ho : ∀ x, o = some x → IsT w (b ≤ ·) x) (hv : LsAt w b v us) (hb : b ≤ w.heap.size)
    (hG : ∀ u w', Fr [] w w' → IsT w' (b ≤ ·) u → u.dt = .node (nd 8 t [] 0) ((o.map Tr.dt).getD dt0 :: us.map Tr.dt) → Goes c.B done (ptrV u.p) w' Post) :
    Calls Try.prog 97 #[v, pt bd, pt bp, pt bx] w (GP c.B Post w) := by
  obtain ⟨i1, hi, hz0, hz1, hz2⟩ := info_parts infoP
  obtain ⟨x1, y1, e1⟩ := posV_cx t.2.1.1 t.2.1.2
  rw [hp] at e1
  subst e1
  have cd := hbd.c
  have cp := hbp.c
  have cx := hbx.c
  obtain ⟨hq, hhq⟩ : ∃ hq, encP (o.map Tr.p) = .pointer hq := by cases o <;> exact ⟨_, rfl⟩
  rw [hhq] at cx
  obtain ⟨w1, hw1⟩ : ∃ w1, (w.alloc (.cells #[.pointer hq] 26)) = w1 := ⟨_, rfl⟩
  have F1 : Fr [] w w1 := by rw [← hw1]; exact Fr.alloc _ _
  have hc1 : w1.heap[w.heap.size]? = some (.cells #[.pointer hq] 26 (0, 0)) := by rw [← hw1]; exact heap_alloc_new _ _
  have own1 : w1.ownsRow 0 26 1 (.slice (some ⟨w.heap.size, 0, none⟩) 1 1) 1 [.pointer hq] :=
    ⟨rfl, .inr ⟨w.heap.size, 1, #[.pointer hq], rfl, Nat.zero_le _, hc1, by decide, by decide, rfl, rfl⟩⟩
  have HO := Lib.hid (And.intro hhq (And.intro hp (And.intro F1 (And.intro own1 (And.intro ho (And.intro hv hG))))))
  have hvl := hv.le
  have hs1 := F1.size
  have HVV := Lib.hid (And.intro hbd hbp)
  clear hX hbd hbp hbx hhq hp ho hG F1 own1 hc1
  simp only [pt]
  by_cases hn : us = []
  · subst hn
    obtain rfl : v = .slice none 0 0 := hv.nil rfl
    have HN1 := new_of w1.drew (nd 8 t [] 0) (.slice (some ⟨w.heap.size, 0, none⟩) 1 1) [o] b (argL_own (by
        have := own_keep HO.out.2.2.2.1 (Fr.drew w1) (by simp)
        rw [← HO.out.1] at this
        exact this) rfl) (by simp) (fun x hx => by
        have : o = some x := by simpa [eq_comm] using hx
        exact ((HO.out.2.2.2.2.1 x this).fr HO.out.2.2.1 (by simp)).fr (Fr.drew w1) (by simp)) (by show b ≤ w1.heap.size; omega) (by simp [nd]) _ HO.out.2.1 ⟨#[]⟩ rfl 8 rfl 0 rfl [(o.map Tr.dt).getD dt0] rfl
    have hap := app_nil
    have cd1 := HO.out.2.2.1.cellE cd
    have cp1 := HO.out.2.2.1.cellE cp
    have HNH := Lib.hid HN1
    have HBX := Lib.hid (And.intro HO.out.2.2.1 HO.out.2.2.2.2.2.2)
    clear hv HN1
    go_enter Try.func97, Try.ntmps97
    go_wp2_with fail
    refine wp_region_held_drew (S := fun w' => w'.cell? ⟨bd, 0, none⟩ = some (.func (.func done.f) done.first done.caps) ∧ w'.cell? ⟨bp, 0, none⟩ = some (.complex .f64 x1 y1)) (by kernel_rfl) ?_ (fun hHeld => ?_)
    · exact ⟨cd, cp⟩
    refine wpAnyH_take (i := 0) (v := ?_) rfl (by kernel_rfl) (by kernel_rfl) (by kernel_rfl) (fun _ _ _ h => h) (Or.inl ⟨by rfl, ?_⟩) (by assumption) ?_
    rotate_left
    · intro w hSw; (try dsimp only at hSw); go_simp; try with_reducible rfl
    simp only [Act.put, List.setIfInBounds_toArray, List.set_cons_zero, List.set_cons_succ, List.getElem_toArray, List.getElem_cons_zero, List.getElem_cons_succ]
    refine wpAnyH_take (i := 1) (v := ?_) rfl (by kernel_rfl) (by kernel_rfl) (by kernel_rfl) (fun _ _ _ h => h) (Or.inl ⟨by rfl, ?_⟩) (by assumption) ?_
    rotate_left
    · intro w hSw; (try dsimp only at hSw); go_simp; try with_reducible rfl
    simp only [Act.put, List.setIfInBounds_toArray, List.set_cons_zero, List.set_cons_succ, List.getElem_toArray, List.getElem_cons_zero, List.getElem_cons_succ]
    refine wpAnyH_take (i := 4) (v := ?_) rfl (by kernel_rfl) (by kernel_rfl) (by kernel_rfl) (fun _ _ _ h => h) (Or.inl ⟨by rfl, ?_⟩) (by assumption) ?_
    rotate_left
    · intro w hSw; (try dsimp only at hSw); go_simp; try with_reducible rfl
    simp only [Act.put, List.setIfInBounds_toArray, List.set_cons_zero, List.set_cons_succ, List.getElem_toArray, List.getElem_cons_zero, List.getElem_cons_succ]
    refine wpAnyH_ready (rs := [2]) (by kernel_rfl) (by simp) ?_
    refine AllReadyH.cons rfl (fun K hK => ?_) ?_
    rotate_left
    · exact AllReadyH.nil
    go_simp
    refine hK.out _ _ (hHeld) (fun hHeld => ?_)
    clear hK K
    try simp only [Act.put, List.setIfInBounds_toArray, List.set_cons_zero, List.set_cons_succ, List.getElem_toArray, List.getElem_cons_zero, List.getElem_cons_succ]
    refine wpAnyH_ready (rs := [3]) (by kernel_rfl) (by simp) ?_
    refine AllReadyH.cons rfl (fun K hK => ?_) ?_
    rotate_left
    · exact AllReadyH.nil
    go_simp
    refine hK.out _ _ (⟨cd1, cp1⟩) (fun hHeld => ?_)
    clear hK K
    try simp only [Act.put, List.setIfInBounds_toArray, List.set_cons_zero, List.set_cons_succ, List.getElem_toArray, List.getElem_cons_zero, List.getElem_cons_succ]
    refine wpAnyH_ready (rs := [5]) (by kernel_rfl) (by simp) ?_
    refine AllReadyH.cons rfl (fun K hK => ?_) ?_
    rotate_left
    · exact AllReadyH.nil
    go_simp
    refine hK.out _ _ (⟨cd1, cp1⟩) (fun hHeld => ?_)
    clear hK K
    try simp only [Act.put, List.setIfInBounds_toArray, List.set_cons_zero, List.set_cons_succ, List.getElem_toArray, List.getElem_cons_zero, List.getElem_cons_succ]
    refine wpAnyH_ready (rs := [6]) (by kernel_rfl) (by simp) ?_
    refine AllReadyH.cons rfl (fun K hK => ?_) ?_
    rotate_left
    · exact AllReadyH.nil
    go_simp
    refine HNH.out.mono ?_
    rintro e w3 ⟨u, rfl, F3, hu, hud⟩
    have FF := (HBX.out.1.trans (Fr.drew w1) (by simp)).trans F3 (by simp)
    obtain ⟨hE, hC⟩ := HBX.out.2 u w3 FF hu hud
    have hRn := run_enters hE
    have HK := Lib.hid (Kn.fr0 FF)
    have cd3 := FF.cellE cd
    have cp3 := FF.cellE cp
    clear hE FF F3 hu hud
    simp only [ptrV] at hC ⊢
    go_wp2_with fail
    refine hK.out _ _ (⟨cd3, cp3⟩) (fun hHeld => ?_)
    clear hK K
    try simp only [Act.put, List.setIfInBounds_toArray, List.set_cons_zero, List.set_cons_succ, List.getElem_toArray, List.getElem_cons_zero, List.getElem_cons_succ]
    refine wpAnyH_ready (rs := [7]) (by kernel_rfl) (by simp) ?_
    refine AllReadyH.cons rfl (fun K hK => ?_) ?_
    rotate_left
    · exact AllReadyH.nil
    go_simp
    refine hC.mono ?_
    rintro e w4 ⟨s, rfl, hk2, hr⟩
    have cd4 := kn_cell HVV.out.1 (HK.out.trans hk2)
    have cp4 := kn_cell HVV.out.2 (HK.out.trans hk2)
    go_wp2_with fail
    refine hK.out _ _ (⟨cd4, cp4⟩) (fun hHeld => ?_)
    clear hK K
    try simp only [Act.put, List.setIfInBounds_toArray, List.set_cons_zero, List.set_cons_succ, List.getElem_toArray, List.getElem_cons_zero, List.getElem_cons_succ]
    refine wpAnyH_take (i := 8) (v := ?_) rfl (by kernel_rfl) (by kernel_rfl) (by kernel_rfl) (fun _ _ _ h => h) (Or.inl ⟨by rfl, ?_⟩) (by assumption) ?_
    rotate_left
    · intro w hSw; (try dsimp only at hSw); go_simp; try with_reducible rfl
    simp only [Act.put, List.setIfInBounds_toArray, List.set_cons_zero, List.set_cons_succ, List.getElem_toArray, List.getElem_cons_zero, List.getElem_cons_succ]
    refine wpAnyH_done (by kernel_rfl) ?_ _
    go_wp2_with fail
    go_ret
    exact gp_ret (HK.out.trans hk2) hr
  · obtain ⟨n, hnl⟩ : ∃ n, us.length = n := ⟨_, rfl⟩
    have hn0 : 0 < n := by have := List.length_pos_iff.2 hn; omega
    obtain ⟨g, cap, hvg, _, _⟩ := hv.row.form (by omega)
    rw [hnl] at hvg hvl
    subst hvg
    have hbg : g < w.heap.size := (hv.row.lt g rfl).2
    have hnews : ∀ j u, (us.map fun t => ptrV t.p)[j]? = some u → w1.drew.cell? ((⟨g, 0, none⟩ : Addr).add j) = some u := fun j u hj => by
      have h8 := World.ownsRow.cells hv.row (g := g) rfl j u hj
      exact (HO.out.2.2.1.trans (Fr.drew w1) (by simp)).cellE h8
    have hone : ∀ u ∈ (us.map fun t => ptrV t.p), u.oneCell' = true := fun u hu => by
      obtain ⟨t, _, rfl⟩ := List.mem_map.1 hu
      rfl
    have hmk : ∀ (w9 : World) (g9 cap9 : Nat), Fr [] w w9 → w9.ownsRow 0 26 1 (.slice (some ⟨g9, 0, none⟩) (1 + n) cap9) (1 + n) ([.pointer hq] ++ us.map fun t => ptrV t.p) →
        Calls Try.prog 52 #[.int .u8 8, .complex .f64 x1 y1, .string ⟨#[]⟩, .int .i64 0, .slice (some ⟨g9, 0, none⟩) (1 + n) cap9] w9 fun e w' => ∃ u, e = .returned (ptrV u.p) ∧ Fr [] w9 w' ∧ IsT w' (b ≤ ·) u ∧ u.dt = .node (nd 8 t [] 0) ((o.map Tr.dt).getD dt0 :: us.map Tr.dt) := fun w9 g9 cap9 F9 hown => by
      refine new_of w9 (nd 8 t [] 0) _ (o :: us.map some) b (argL_own ?_ (by simp [hnl]; omega)) (by simp [hnl]; omega) (fun x hx => ?_) (by have := F9.size; omega) (by simp [nd]) _ HO.out.2.1 ⟨#[]⟩ rfl 8 rfl 0 rfl _ ?_
      · rw [List.map_cons, ls_vals, HO.out.1]
        exact hown
      · rcases List.mem_cons.1 hx with h | h
        · exact (HO.out.2.2.2.2.1 x h.symm).fr F9 (by simp)
        · obtain ⟨x', hx', e⟩ := List.mem_map.1 h
          obtain rfl : x' = x := Option.some.inj e
          exact (HO.out.2.2.2.2.2.1.t x' hx').fr F9 (by simp)
      · rw [List.map_cons, ls_dts]
    have cd1 := HO.out.2.2.1.cellE cd
    have cp1 := HO.out.2.2.1.cellE cp
    have hown1 := own_keep HO.out.2.2.2.1 (Fr.drew w1) (by simp)
    have HBX := Lib.hid (And.intro HO.out.2.2.1 (And.intro hown1 (And.intro hnl (And.intro hnews (And.intro hone (And.intro hmk HO.out.2.2.2.2.2.2))))))
    clear hv hown1 hnews hone hmk hn hnl HO
    go_enter Try.func97, Try.ntmps97
    go_wp2_with fail
    refine wp_region_held_drew (S := fun w' => w'.cell? ⟨bd, 0, none⟩ = some (.func (.func done.f) done.first done.caps) ∧ w'.cell? ⟨bp, 0, none⟩ = some (.complex .f64 x1 y1)) (by kernel_rfl) ?_ (fun hHeld => ?_)
    · exact ⟨cd, cp⟩
    refine wpAnyH_take (i := 0) (v := ?_) rfl (by kernel_rfl) (by kernel_rfl) (by kernel_rfl) (fun _ _ _ h => h) (Or.inl ⟨by rfl, ?_⟩) (by assumption) ?_
    rotate_left
    · intro w hSw; (try dsimp only at hSw); go_simp; try with_reducible rfl
    simp only [Act.put, List.setIfInBounds_toArray, List.set_cons_zero, List.set_cons_succ, List.getElem_toArray, List.getElem_cons_zero, List.getElem_cons_succ]
    refine wpAnyH_take (i := 1) (v := ?_) rfl (by kernel_rfl) (by kernel_rfl) (by kernel_rfl) (fun _ _ _ h => h) (Or.inl ⟨by rfl, ?_⟩) (by assumption) ?_
    rotate_left
    · intro w hSw; (try dsimp only at hSw); go_simp; try with_reducible rfl
    simp only [Act.put, List.setIfInBounds_toArray, List.set_cons_zero, List.set_cons_succ, List.getElem_toArray, List.getElem_cons_zero, List.getElem_cons_succ]
    refine wpAnyH_take (i := 4) (v := ?_) rfl (by kernel_rfl) (by kernel_rfl) (by kernel_rfl) (fun _ _ _ h => h) (Or.inl ⟨by rfl, ?_⟩) (by assumption) ?_
    rotate_left
    · intro w hSw; (try dsimp only at hSw); go_simp; try with_reducible rfl
    simp only [Act.put, List.setIfInBounds_toArray, List.set_cons_zero, List.set_cons_succ, List.getElem_toArray, List.getElem_cons_zero, List.getElem_cons_succ]
    refine wpAnyH_ready (rs := [2]) (by kernel_rfl) (by simp) ?_
    refine AllReadyH.cons rfl (fun K hK => ?_) ?_
    rotate_left
    · exact AllReadyH.nil
    go_simp
    refine hK.out _ _ (hHeld) (fun hHeld => ?_)
    clear hK K
    try simp only [Act.put, List.setIfInBounds_toArray, List.set_cons_zero, List.set_cons_succ, List.getElem_toArray, List.getElem_cons_zero, List.getElem_cons_succ]
    refine wpAnyH_ready (rs := [3]) (by kernel_rfl) (by simp) ?_
    refine AllReadyH.cons rfl (fun K hK => ?_) ?_
    rotate_left
    · exact AllReadyH.nil
    go_simp
    refine hK.out _ _ (⟨cd1, cp1⟩) (fun hHeld => ?_)
    clear hK K
    try simp only [Act.put, List.setIfInBounds_toArray, List.set_cons_zero, List.set_cons_succ, List.getElem_toArray, List.getElem_cons_zero, List.getElem_cons_succ]
    refine wpAnyH_ready (rs := [5]) (by kernel_rfl) (by simp) ?_
    refine AllReadyH.cons rfl (fun K hK => ?_) ?_
    rotate_left
    · exact AllReadyH.nil
    refine step_append_lies _ (by rfl) _ _ _ (by rfl) 0 26 i1 (.pointer none) 1 8 Try.underlying34 hi hz0 hz1 hz2 (by rfl) (by decide) (.slice (some ⟨w.heap.size, 0, none⟩) 1 1) 1 [.pointer hq] (by rfl) HBX.out.2.1 ⟨g, 0, none⟩ n cap (us.map fun t => ptrV t.p) (by rfl) (by simp [HBX.out.2.2.1]) HBX.out.2.2.2.1 HBX.out.2.2.2.2.1 (by omega) (by unfold maxLen; omega) (by omega) (Nat.zero_le _) w1.heap.size rfl ?_
    intro g9 cap9 w9 hown9 hgrow hat hlt9
    have F9 : Fr [] w w9 := (HBX.out.1.trans (Fr.drew w1) (by simp)).trans (Fr.of_grown hgrow) (fun j hj => .inr (by simp [Value.ownBlock] at hj; omega))
    have cd9 := F9.cellE cd
    have cp9 := F9.cellE cp
    have HN := HBX.out.2.2.2.2.2.1 w9 g9 cap9 F9 hown9
    have H9 := Lib.hid F9
    clear hown9 hgrow hat hlt9 F9
    refine hK.out _ _ (⟨cd9, cp9⟩) (fun hHeld => ?_)
    clear hK K
    try simp only [Act.put, List.setIfInBounds_toArray, List.set_cons_zero, List.set_cons_succ, List.getElem_toArray, List.getElem_cons_zero, List.getElem_cons_succ]
    refine wpAnyH_ready (rs := [6]) (by kernel_rfl) (by simp) ?_
    refine AllReadyH.cons rfl (fun K hK => ?_) ?_
    rotate_left
    · exact AllReadyH.nil
    go_simp
    refine HN.mono ?_
    rintro e w3 ⟨u, rfl, F3, hu, hud⟩
    have FF := H9.out.trans F3 (by simp)
    obtain ⟨hE, hC⟩ := HBX.out.2.2.2.2.2.2 u w3 FF hu hud
    have hRn := run_enters hE
    have HK := Lib.hid (Kn.fr0 FF)
    have cd3 := FF.cellE cd
    have cp3 := FF.cellE cp
    clear hE FF F3 hu hud HN
    simp only [ptrV] at hC ⊢
    go_wp2_with fail
    refine hK.out _ _ (⟨cd3, cp3⟩) (fun hHeld => ?_)
    clear hK K
    try simp only [Act.put, List.setIfInBounds_toArray, List.set_cons_zero, List.set_cons_succ, List.getElem_toArray, List.getElem_cons_zero, List.getElem_cons_succ]
    refine wpAnyH_ready (rs := [7]) (by kernel_rfl) (by simp) ?_
    refine AllReadyH.cons rfl (fun K hK => ?_) ?_
    rotate_left
    · exact AllReadyH.nil
    go_simp
    refine hC.mono ?_
    rintro e w4 ⟨s, rfl, hk2, hr⟩
    have cd4 := kn_cell HVV.out.1 (HK.out.trans hk2)
    have cp4 := kn_cell HVV.out.2 (HK.out.trans hk2)
    go_wp2_with fail
    refine hK.out _ _ (⟨cd4, cp4⟩) (fun hHeld => ?_)
    clear hK K
    try simp only [Act.put, List.setIfInBounds_toArray, List.set_cons_zero, List.set_cons_succ, List.getElem_toArray, List.getElem_cons_zero, List.getElem_cons_succ]
    refine wpAnyH_take (i := 8) (v := ?_) rfl (by kernel_rfl) (by kernel_rfl) (by kernel_rfl) (fun _ _ _ h => h) (Or.inl ⟨by rfl, ?_⟩) (by assumption) ?_
    rotate_left
    · intro w hSw; (try dsimp only at hSw); go_simp; try with_reducible rfl
    simp only [Act.put, List.setIfInBounds_toArray, List.set_cons_zero, List.set_cons_succ, List.getElem_toArray, List.getElem_cons_zero, List.getElem_cons_succ]
    refine wpAnyH_done (by kernel_rfl) ?_ _
    go_wp2_with fail
    go_ret
    exact gp_ret (HK.out.trans hk2) hr
theorem ent_lab64 : Enters 57 := ⟨_, _, Try.func57, by kernel_rfl, rfl⟩
theorem lab64 (c : Cx) (bd bp j b : Nat) (done : FV) (Post : World → Prop) (t : TK) (us : List Tr) (v : Value) (w : World) (pv : Value) (hbd : Var w bd 69 done.val) (hbp : Var w bp 33 pv) (hp : posV t.2.1.1 t.2.1.2 = pv)
    (hv : LsAt w b v us) (hb : b ≤ w.heap.size)
    (hG : ∀ u w', Fr [] w w' → IsT w' (b ≤ ·) u → u.dt = .node (nd 29 t [] 0) (us.map Tr.dt) → Goes c.B done (ptrV u.p) w' Post) :
    Calls Try.prog 57 #[v, pt bd, pt bp] w (GP c.B Post w) := by
  obtain ⟨x1, y1, e1⟩ := posV_cx t.2.1.1 t.2.1.2
  rw [hp] at e1
  subst e1
  have cd := hbd.c
  have cp := hbp.c
  have hvd : LsAt w.drew b v us := ⟨own_keep hv.row (Fr.drew w) (by simp), fun t ht => (hv.t t ht).fr (Fr.drew w) (by simp), hv.le, hv.nil⟩
  have HN := new_of w.drew (nd 29 t [] 0) v (us.map some) b hvd.argL (by have := hv.le; simp; omega) (fun x hx => by
      obtain ⟨x', hx', e⟩ := List.mem_map.1 hx
      obtain rfl : x' = x := Option.some.inj e
      exact hvd.t x' hx') hb (by simp [nd]) _ hp ⟨#[]⟩ rfl 29 rfl 0 rfl (us.map Tr.dt) (ls_dts us)
  have HG := Lib.hid hG
  obtain ⟨q, n, cap, hq⟩ : ∃ q n cap, v = .slice q n cap := by
    rcases hv.row.2 with ⟨h1, h2⟩ | ⟨g, cap, cur, h1, _⟩
    · exact ⟨_, _, _, h1⟩
    · exact ⟨_, _, _, h1⟩
  subst hq
  have HVV := Lib.hid (And.intro hbd hbp)
  clear hbd hbp hp hv hG hvd
  simp only [pt]
  go_enter Try.func57, Try.ntmps57
  go_wp2_with fail
  refine wp_region_held_drew (S := fun w' => w'.cell? ⟨bd, 0, none⟩ = some (.func (.func done.f) done.first done.caps) ∧ w'.cell? ⟨bp, 0, none⟩ = some (.complex .f64 x1 y1)) (by kernel_rfl) ?_ (fun hHeld => ?_)
  · exact ⟨cd, cp⟩
  refine wpAnyH_take (i := 0) (v := ?_) rfl (by kernel_rfl) (by kernel_rfl) (by kernel_rfl) (fun _ _ _ h => h) (Or.inl ⟨by rfl, ?_⟩) (by assumption) ?_
  rotate_left
  · intro w hSw; (try dsimp only at hSw); go_simp; try with_reducible rfl
  simp only [Act.put, List.setIfInBounds_toArray, List.set_cons_zero, List.set_cons_succ, List.getElem_toArray, List.getElem_cons_zero, List.getElem_cons_succ]
  refine wpAnyH_take (i := 1) (v := ?_) rfl (by kernel_rfl) (by kernel_rfl) (by kernel_rfl) (fun _ _ _ h => h) (Or.inl ⟨by rfl, ?_⟩) (by assumption) ?_
  rotate_left
  · intro w hSw; (try dsimp only at hSw); go_simp; try with_reducible rfl
  simp only [Act.put, List.setIfInBounds_toArray, List.set_cons_zero, List.set_cons_succ, List.getElem_toArray, List.getElem_cons_zero, List.getElem_cons_succ]
  refine wpAnyH_take (i := 2) (v := ?_) rfl (by kernel_rfl) (by kernel_rfl) (by kernel_rfl) (fun _ _ _ h => h) (Or.inl ⟨by rfl, ?_⟩) (by assumption) ?_
  rotate_left
  · intro w hSw; (try dsimp only at hSw); go_simp; try with_reducible rfl
  simp only [Act.put, List.setIfInBounds_toArray, List.set_cons_zero, List.set_cons_succ, List.getElem_toArray, List.getElem_cons_zero, List.getElem_cons_succ]
  refine wpAnyH_ready (rs := [3]) (by kernel_rfl) (by simp) ?_
  refine AllReadyH.cons rfl (fun K hK => ?_) ?_
  rotate_left
  · exact AllReadyH.nil
  go_simp
  refine HN.mono ?_
  rintro e w3 ⟨u, rfl, F3, hu, hud⟩
  have FF := (Fr.drew w).trans F3 (by simp)
  obtain ⟨hE, hC⟩ := HG.out u w3 FF hu hud
  have hRn := run_enters hE
  have HK := Lib.hid (Kn.fr0 FF)
  have cd3 := FF.cellE cd
  have cp3 := FF.cellE cp
  clear hE FF F3 hu hud HN
  simp only [ptrV] at hC ⊢
  go_wp2_with fail
  refine hK.out _ _ (⟨cd3, cp3⟩) (fun hHeld => ?_)
  clear hK K
  try simp only [Act.put, List.setIfInBounds_toArray, List.set_cons_zero, List.set_cons_succ, List.getElem_toArray, List.getElem_cons_zero, List.getElem_cons_succ]
  refine wpAnyH_ready (rs := [4]) (by kernel_rfl) (by simp) ?_
  refine AllReadyH.cons rfl (fun K hK => ?_) ?_
  rotate_left
  · exact AllReadyH.nil
  go_simp
  refine hC.mono ?_
  rintro e w4 ⟨s, rfl, hk2, hr⟩
  have cd4 := kn_cell HVV.out.1 (HK.out.trans hk2)
  have cp4 := kn_cell HVV.out.2 (HK.out.trans hk2)
  go_wp2_with fail
  refine hK.out _ _ (⟨cd4, cp4⟩) (fun hHeld => ?_)
  clear hK K
  try simp only [Act.put, List.setIfInBounds_toArray, List.set_cons_zero, List.set_cons_succ, List.getElem_toArray, List.getElem_cons_zero, List.getElem_cons_succ]
  refine wpAnyH_take (i := 5) (v := ?_) rfl (by kernel_rfl) (by kernel_rfl) (by kernel_rfl) (fun _ _ _ h => h) (Or.inl ⟨by rfl, ?_⟩) (by assumption) ?_
  rotate_left
  · intro w hSw; (try dsimp only at hSw); go_simp; try with_reducible rfl
  simp only [Act.put, List.setIfInBounds_toArray, List.set_cons_zero, List.set_cons_succ, List.getElem_toArray, List.getElem_cons_zero, List.getElem_cons_succ]
  refine wpAnyH_done (by kernel_rfl) ?_ _
  go_wp2_with fail
  go_ret
  exact gp_ret (HK.out.trans hk2) hr
theorem ent_el77 : Enters 70 := ⟨_, _, Try.func70, by kernel_rfl, rfl⟩
theorem el77 (c : Cx) (bd bp bx b : Nat) (done : FV) (Post : World → Prop) (t : TK) (x y : Tr) (w : World) (pv : Value) (hbd : Var w bd 69 done.val) (hbp : Var w bp 33 pv) (hp : posV t.2.1.1 t.2.1.2 = pv) (hbx : Var w bx 26 (ptrV x.p))
    (hx : IsT w (b ≤ ·) x) (hy : IsT w (b ≤ ·) y) (hb : b ≤ w.heap.size)
    (hG : ∀ u w', Fr [] w w' → IsT w' (b ≤ ·) u → u.dt = .node (nd 9 t [] 0) [x.dt, y.dt] → Goes c.B done (ptrV u.p) w' Post) :
    Calls Try.prog 70 #[ptrV y.p, pt bd, pt bp, pt bx] w (GP c.B Post w) := by
  obtain ⟨x1, y1, e1⟩ := posV_cx t.2.1.1 t.2.1.2
  rw [hp] at e1
  subst e1
  have cd := hbd.c
  have cp := hbp.c
  have cx := hbx.c
  obtain ⟨w1, hw1⟩ : ∃ w1, (w.alloc (.cells #[.pointer (some ⟨x.p, 0, none⟩), .pointer (some ⟨y.p, 0, none⟩)] 26)) = w1 := ⟨_, rfl⟩
  have F1 : Fr [] w w1 := by rw [← hw1]; exact Fr.alloc _ _
  have hA : ArgL w1.drew (.slice (some ⟨w.heap.size, 0, none⟩) 2 2) [some x, some y] := by rw [← hw1]; exact argL2 w x y
  have F1d := F1.trans (Fr.drew w1) (by simp)
  have HN := new_of w1.drew (nd 9 t [] 0) _ [some x, some y] b hA (by simp) (fun u hu => by
      have : u = x ∨ u = y := by simpa using hu
      rcases this with rfl | rfl
      · exact hx.fr F1d (by simp)
      · exact hy.fr F1d (by simp)) (by have := F1d.size; omega) (by simp [nd]) _ hp ⟨#[]⟩ rfl 9 rfl 0 rfl [x.dt, y.dt] rfl
  have HG := Lib.hid (And.intro hG F1d)
  have HVV := Lib.hid (And.intro hbd hbp)
  have cd1 := F1.cellE cd
  have cp1 := F1.cellE cp
  clear hbd hbp hp hbx hx hy hG hA F1 F1d
  simp only [pt, ptrV] at cx ⊢
  go_enter Try.func70, Try.ntmps70
  go_wp2_with fail
  refine wp_region_held_drew (S := fun w' => w'.cell? ⟨bd, 0, none⟩ = some (.func (.func done.f) done.first done.caps) ∧ w'.cell? ⟨bp, 0, none⟩ = some (.complex .f64 x1 y1)) (by kernel_rfl) ?_ (fun hHeld => ?_)
  · exact ⟨cd, cp⟩
  refine wpAnyH_take (i := 0) (v := ?_) rfl (by kernel_rfl) (by kernel_rfl) (by kernel_rfl) (fun _ _ _ h => h) (Or.inl ⟨by rfl, ?_⟩) (by assumption) ?_
  rotate_left
  · intro w hSw; (try dsimp only at hSw); go_simp; try with_reducible rfl
  simp only [Act.put, List.setIfInBounds_toArray, List.set_cons_zero, List.set_cons_succ, List.getElem_toArray, List.getElem_cons_zero, List.getElem_cons_succ]
  refine wpAnyH_take (i := 1) (v := ?_) rfl (by kernel_rfl) (by kernel_rfl) (by kernel_rfl) (fun _ _ _ h => h) (Or.inl ⟨by rfl, ?_⟩) (by assumption) ?_
  rotate_left
  · intro w hSw; (try dsimp only at hSw); go_simp; try with_reducible rfl
  simp only [Act.put, List.setIfInBounds_toArray, List.set_cons_zero, List.set_cons_succ, List.getElem_toArray, List.getElem_cons_zero, List.getElem_cons_succ]
  refine wpAnyH_take (i := 3) (v := ?_) rfl (by kernel_rfl) (by kernel_rfl) (by kernel_rfl) (fun _ _ _ h => h) (Or.inl ⟨by rfl, ?_⟩) (by assumption) ?_
  rotate_left
  · intro w hSw; (try dsimp only at hSw); go_simp; try with_reducible rfl
  simp only [Act.put, List.setIfInBounds_toArray, List.set_cons_zero, List.set_cons_succ, List.getElem_toArray, List.getElem_cons_zero, List.getElem_cons_succ]
  refine wpAnyH_ready (rs := [2]) (by kernel_rfl) (by simp) ?_
  refine AllReadyH.cons rfl (fun K hK => ?_) ?_
  rotate_left
  · exact AllReadyH.nil
  go_simp
  refine hK.out _ _ (hHeld) (fun hHeld => ?_)
  clear hK K
  try simp only [Act.put, List.setIfInBounds_toArray, List.set_cons_zero, List.set_cons_succ, List.getElem_toArray, List.getElem_cons_zero, List.getElem_cons_succ]
  refine wpAnyH_ready (rs := [4]) (by kernel_rfl) (by simp) ?_
  refine AllReadyH.cons rfl (fun K hK => ?_) ?_
  rotate_left
  · exact AllReadyH.nil
  go_simp
  refine hK.out _ _ (⟨cd1, cp1⟩) (fun hHeld => ?_)
  clear hK K
  try simp only [Act.put, List.setIfInBounds_toArray, List.set_cons_zero, List.set_cons_succ, List.getElem_toArray, List.getElem_cons_zero, List.getElem_cons_succ]
  refine wpAnyH_ready (rs := [5]) (by kernel_rfl) (by simp) ?_
  refine AllReadyH.cons rfl (fun K hK => ?_) ?_
  rotate_left
  · exact AllReadyH.nil
  go_simp
  refine HN.mono ?_
  rintro e w3 ⟨u, rfl, F3, hu, hud⟩
  have FF := (HG.out.2).trans F3 (by simp)
  obtain ⟨hE, hC⟩ := HG.out.1 u w3 FF hu hud
  have hRn := run_enters hE
  have HK := Lib.hid (Kn.fr0 FF)
  have cd3 := FF.cellE cd
  have cp3 := FF.cellE cp
  clear hE FF F3 hu hud HN
  simp only [ptrV] at hC ⊢
  go_wp2_with fail
  refine hK.out _ _ (⟨cd3, cp3⟩) (fun hHeld => ?_)
  clear hK K
  try simp only [Act.put, List.setIfInBounds_toArray, List.set_cons_zero, List.set_cons_succ, List.getElem_toArray, List.getElem_cons_zero, List.getElem_cons_succ]
  refine wpAnyH_ready (rs := [6]) (by kernel_rfl) (by simp) ?_
  refine AllReadyH.cons rfl (fun K hK => ?_) ?_
  rotate_left
  · exact AllReadyH.nil
  go_simp
  refine hC.mono ?_
  rintro e w4 ⟨s, rfl, hk2, hr⟩
  have cd4 := kn_cell HVV.out.1 (HK.out.trans hk2)
  have cp4 := kn_cell HVV.out.2 (HK.out.trans hk2)
  go_wp2_with fail
  refine hK.out _ _ (⟨cd4, cp4⟩) (fun hHeld => ?_)
  clear hK K
  try simp only [Act.put, List.setIfInBounds_toArray, List.set_cons_zero, List.set_cons_succ, List.getElem_toArray, List.getElem_cons_zero, List.getElem_cons_succ]
  refine wpAnyH_take (i := 7) (v := ?_) rfl (by kernel_rfl) (by kernel_rfl) (by kernel_rfl) (fun _ _ _ h => h) (Or.inl ⟨by rfl, ?_⟩) (by assumption) ?_
  rotate_left
  · intro w hSw; (try dsimp only at hSw); go_simp; try with_reducible rfl
  simp only [Act.put, List.setIfInBounds_toArray, List.set_cons_zero, List.set_cons_succ, List.getElem_toArray, List.getElem_cons_zero, List.getElem_cons_succ]
  refine wpAnyH_done (by kernel_rfl) ?_ _
  go_wp2_with fail
  go_ret
  exact gp_ret (HK.out.trans hk2) hr
end Go.Proofs.Ytldecbaaajmmcaa
