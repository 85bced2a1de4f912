/- The document's table of layer 11: Add. -/
import Derived.Test.YtepfknfadpkigaaTyP
namespace Go.Proofs.Ytepfknfadpkigaa
open Go.RowKit
set_option maxHeartbeats 1000000
set_option maxRecDepth 100000
set_option linter.unusedVariables false
set_option linter.unusedSimpArgs false

structure DTabK (w : World) (t g cap : Nat) (M : List Nat) (L : List TyV) (K : List TyK) : Prop where
  tab : DTab w t g cap L
  len : K.length = L.length
  has : ∀ (i : Nat) x c, L[i]? = some x → K[i]? = some c → HasM w M x c
  mt : t ∈ M
  mg : g ∈ M
  lt : ∀ j ∈ M, j < w.heap.size
theorem DTabK.on {w w' : World} {t g cap : Nat} {M : List Nat} {L : List TyV} {K : List TyK} (h : DTabK w t g cap M L K) (k : Bl w w') : DTabK w' t g cap M L K :=
  ⟨h.tab.on k, h.len, fun i x c hx hc => (h.has i x c hx hc).next (Fx.of _ k) (fun j hj => .inl hj), h.mt, h.mg, fun j hj => Nat.lt_of_lt_of_le (h.lt j hj) k.size⟩
theorem DTabK.keep {w w' : World} {t g cap : Nat} {M : List Nat} {L : List TyV} {K : List TyK} (h : DTabK w t g cap M L K) {N M' : List Nat} (f : Fx N w w') (hN : ∀ j ∈ N, j ∈ M ∧ j ≠ t ∧ j ≠ g) (hM : ∀ j ∈ M', j ∈ M ∨ w.heap.size ≤ j) (ht : t ∈ M') (hg : g ∈ M') (hlt : ∀ j ∈ M', j < w'.heap.size) : DTabK w' t g cap M' L K := by
  have fM : Fx M w w' := ⟨f.os, f.tape, f.output, f.size, fun k hk hm => f.block k hk (fun hn => hm (hN k hn).1)⟩
  exact ⟨h.tab.same (f.block t h.tab.t.1 (fun hm => (hN t hm).2.1 rfl)) (f.block g h.tab.t.2 (fun hm => (hN g hm).2.2 rfl)) f.size, h.len, fun i x c hx hc => (h.has i x c hx hc).next fM hM, ht, hg, hlt⟩
theorem DTabK.at {w : World} {t g cap : Nat} {M : List Nat} {L : List TyV} {K : List TyK} (h : DTabK w t g cap M L K) (i : Int) : Has w 0 (atP L i) (atK K i) := by
  unfold atP atK
  by_cases h0 : 0 ≤ i
  · rw [if_pos h0, if_pos h0]
    by_cases h1 : i.toNat < L.length
    · have h2 : i.toNat < K.length := by rw [h.len]; exact h1
      rw [List.getElem?_eq_getElem h1, List.getElem?_eq_getElem h2]
      exact (h.has _ _ _ (List.getElem?_eq_getElem h1) (List.getElem?_eq_getElem h2)).now
    · have h2 : ¬ i.toNat < K.length := by rw [h.len]; exact h1
      rw [List.getElem?_eq_none (by omega), List.getElem?_eq_none (by omega)]
      exact has_z _ _
  · rw [if_neg h0, if_neg h0]
    exact has_z _ _
theorem may_any (x : TyV) (w : World) : Calls Try.prog 46 #[x.val] w fun e w' => e = .returned (.bool (addP x.k)) ∧ Bl w w' := by
  unfold addP
  rcases Int.lt_or_le x.k 8 with h1 | h1
  · have d1 : decide (x.k ≥ 8) = false := decide_eq_false (by omega)
    have d0 : decide (8 ≤ x.k) = false := decide_eq_false (by omega)
    rw [d0]
    go_enter Try.func46, Try.ntmps46
    go_wp2_with fail
    go_ret
    exact ⟨rfl, bl_new _ _⟩
  · have d1 : decide (x.k ≥ 8) = true := decide_eq_true (by omega)
    have d0 : decide (8 ≤ x.k) = true := decide_eq_true (by omega)
    rw [d0]
    obtain ⟨b, hb⟩ : ∃ b, decide (x.k ≤ 17) = b := ⟨_, rfl⟩
    rw [hb]
    cases b
    all_goals
      go_enter Try.func46, Try.ntmps46
      go_wp2_with fail
      go_ret
      exact ⟨rfl, bl_new _ _⟩
theorem dadd_no {w : World} {t g cap : Nat} {L : List TyV} (h : DTab w t g cap L) (x : TyV) (ha : addP x.k = false) : Calls Try.prog 28 #[.pointer (some ⟨t, 0, none⟩), x.val] w fun e w' => e = .returned (.tuple #[.int .i64 0, .int .i64 2]) ∧ Bl w w' := by
  have HM := may_any x
  rw [ha] at HM
  clear h ha
  go_enter Try.func28, Try.ntmps28
  go_wp2_with fail
  refine (HM _).mono ?_
  rintro e w1 ⟨rfl, k1⟩
  have KK := Lib.hid ((bl_new w (.cells #[.int .u8 x.k, .string x.m, .string x.n, .int .i64 x.b, .int .i64 x.x, .int .i64 x.lo, .int .i64 x.hi, .slice x.ns.p x.ns.n x.ns.c, .slice x.fs.p x.fs.n x.fs.c, .slice x.rs.p x.rs.n x.rs.c, .slice x.ps.p x.ps.n x.ps.c, .int .i64 x.r] 43)).on k1)
  clear k1 HM
  go_wp2_with fail
  go_ret2
  exact ⟨rfl, KK.out⟩
def DAddP (w : World) (t g : Nat) (M : List Nat) (L : List TyV) (K : List TyK) (x : TyV) (c : TyK) (w' : World) : Prop := Fx [t, g] w w' ∧ ∃ (g' cap' : Nat), (g' = g ∨ w.heap.size ≤ g') ∧ g' < w'.heap.size ∧ ∀ M' : List Nat, t ∈ M' → g' ∈ M' → (∀ j ∈ M', j ∈ M ∨ j = g') → DTabK w' t g' cap' M' (L ++ [x]) (K ++ [c])
theorem dadd_ok {w : World} {t g cap : Nat} {M : List Nat} {L : List TyV} {K : List TyK} (h : DTabK w t g cap M L K) (x : TyV) (c : TyK) (hx : HasM w M x c) (ha : addP x.k = true) (hL : L.length < 1024) : Calls Try.prog 28 #[.pointer (some ⟨t, 0, none⟩), x.val] w fun e w' => e = .returned (.tuple #[.int .i64 L.length, .int .i64 0]) ∧ DAddP w t g M L K x c w' := by
  have hn := h.tab.n
  have HTK := Lib.hid h
  have HXM := Lib.hid (And.intro hx hL)
  obtain ⟨n, hn2⟩ : ∃ n, L.length = n := ⟨_, rfl⟩
  have HN := Lib.hid hn2
  rw [hn2] at hn hL
  have d2 : decide ((n : Int) ≥ 1024) = false := decide_eq_false (by omega)
  have hsub : IntKind.i64.wrap ((n : Int) + 1 - 1) = n := by rw [wrapI (by omega)]; omega
  have HB := may_any x
  rw [ha] at HB
  obtain ⟨i0, hi, hz0, hz1, hz2⟩ := info_row infoT12
  rw [hn2]
  clear h hn2 hx ha
  go_enter Try.func28, Try.ntmps28
  go_wp2_with fail
  refine (HB _).mono ?_
  rintro e w2 ⟨rfl, k1⟩
  have KK := Lib.hid ((bl_new w (.cells #[.int .u8 x.k, .string x.m, .string x.n, .int .i64 x.b, .int .i64 x.x, .int .i64 x.lo, .int .i64 x.hi, .slice x.ns.p x.ns.n x.ns.c, .slice x.fs.p x.fs.n x.fs.c, .slice x.rs.p x.rs.n x.rs.c, .slice x.ps.p x.ps.n x.ps.c, .int .i64 x.r] 43)).on k1)
  have XB := (Bx.new w 43 #[.int .u8 x.k, .string x.m, .string x.n, .int .i64 x.b, .int .i64 x.x, .int .i64 x.lo, .int .i64 x.hi, .slice x.ns.p x.ns.n x.ns.c, .slice x.fs.p x.fs.n x.fs.c, .slice x.rs.p x.rs.n x.rs.c, .slice x.ps.p x.ps.n x.ps.c, .int .i64 x.r]).on k1
  have hs2 : w.heap.size + 1 ≤ w2.heap.size := by simpa using k1.size
  have T2 := HTK.out.on KK.out
  have hc2 := T2.tab.c0
  rw [HN.out] at hc2
  clear k1
  go_upto_region 5 with fail
  have HSS : ∀ w', Bl w2 w' → (w'.cell? ⟨t, 0, none⟩ = some (.slice (some ⟨g, 0, none⟩) n cap) ∧ (w'.cell? ⟨w.heap.size, 0, none⟩ = some (.int .u8 x.k) ∧ w'.cell? ⟨w.heap.size, 1, none⟩ = some (.string x.m) ∧ w'.cell? ⟨w.heap.size, 2, none⟩ = some (.string x.n) ∧ w'.cell? ⟨w.heap.size, 3, none⟩ = some (.int .i64 x.b) ∧ w'.cell? ⟨w.heap.size, 4, none⟩ = some (.int .i64 x.x) ∧ w'.cell? ⟨w.heap.size, 5, none⟩ = some (.int .i64 x.lo) ∧ w'.cell? ⟨w.heap.size, 6, none⟩ = some (.int .i64 x.hi) ∧ w'.cell? ⟨w.heap.size, 7, none⟩ = some (.slice x.ns.p x.ns.n x.ns.c) ∧ w'.cell? ⟨w.heap.size, 8, none⟩ = some (.slice x.fs.p x.fs.n x.fs.c) ∧ w'.cell? ⟨w.heap.size, 9, none⟩ = some (.slice x.rs.p x.rs.n x.rs.c) ∧ w'.cell? ⟨w.heap.size, 10, none⟩ = some (.slice x.ps.p x.ps.n x.ps.c) ∧ w'.cell? ⟨w.heap.size, 11, none⟩ = some (.int .i64 x.r))) := fun w' k => by
    refine ⟨?_, (XB.on k).all⟩
    have := (T2.on k).tab.c0
    rw [HN.out] at this
    exact this
  refine region_l 10 (S := fun w' => w'.cell? ⟨t, 0, none⟩ = some (.slice (some ⟨g, 0, none⟩) n cap) ∧ (w'.cell? ⟨w.heap.size, 0, none⟩ = some (.int .u8 x.k) ∧ w'.cell? ⟨w.heap.size, 1, none⟩ = some (.string x.m) ∧ w'.cell? ⟨w.heap.size, 2, none⟩ = some (.string x.n) ∧ w'.cell? ⟨w.heap.size, 3, none⟩ = some (.int .i64 x.b) ∧ w'.cell? ⟨w.heap.size, 4, none⟩ = some (.int .i64 x.x) ∧ w'.cell? ⟨w.heap.size, 5, none⟩ = some (.int .i64 x.lo) ∧ w'.cell? ⟨w.heap.size, 6, none⟩ = some (.int .i64 x.hi) ∧ w'.cell? ⟨w.heap.size, 7, none⟩ = some (.slice x.ns.p x.ns.n x.ns.c) ∧ w'.cell? ⟨w.heap.size, 8, none⟩ = some (.slice x.fs.p x.fs.n x.fs.c) ∧ w'.cell? ⟨w.heap.size, 9, none⟩ = some (.slice x.rs.p x.rs.n x.rs.c) ∧ w'.cell? ⟨w.heap.size, 10, none⟩ = some (.slice x.ps.p x.ps.n x.ps.c) ∧ w'.cell? ⟨w.heap.size, 11, none⟩ = some (.int .i64 x.r))) (by kernel_rfl) ?_ (fun hHeld => ?_)
  · exact HSS _ (bl_drew w2)
  refine anyL_take (k := 12) (i := 0) (v := ?_) rfl (by kernel_rfl) (by kernel_rfl) (by kernel_rfl) (by kernel_rfl) (fun _ _ _ h => h) (Or.inl ⟨by rfl, ?_⟩) (by assumption) ?_
  rotate_left
  · intro w hSw; (try dsimp only at hSw); go_simp; try with_reducible rfl
  simp only [Act.put, List.setIfInBounds_toArray, List.set_cons_zero, List.set_cons_succ, List.getElem_toArray, List.getElem_cons_zero, List.getElem_cons_succ]
  refine anyL_take (k := 12) (i := 1) (v := ?_) rfl (by kernel_rfl) (by kernel_rfl) (by kernel_rfl) (by kernel_rfl) (fun _ _ _ h => h) (Or.inl ⟨by rfl, ?_⟩) (by assumption) ?_
  rotate_left
  · intro w hSw; (try dsimp only at hSw); go_simp; try with_reducible rfl
  simp only [Act.put, List.setIfInBounds_toArray, List.set_cons_zero, List.set_cons_succ, List.getElem_toArray, List.getElem_cons_zero, List.getElem_cons_succ]
  refine anyL_take (k := 12) (i := 2) (v := ?_) rfl (by kernel_rfl) (by kernel_rfl) (by kernel_rfl) (by kernel_rfl) (fun _ _ _ h => h) (Or.inl ⟨by rfl, ?_⟩) (by assumption) ?_
  rotate_left
  · intro w hSw; (try dsimp only at hSw); go_simp; try with_reducible rfl
  simp only [Act.put, List.setIfInBounds_toArray, List.set_cons_zero, List.set_cons_succ, List.getElem_toArray, List.getElem_cons_zero, List.getElem_cons_succ]
  refine anyL_take (k := 12) (i := 3) (v := ?_) rfl (by kernel_rfl) (by kernel_rfl) (by kernel_rfl) (by kernel_rfl) (fun _ _ _ h => h) (Or.inl ⟨by rfl, ?_⟩) (by assumption) ?_
  rotate_left
  · intro w hSw; (try dsimp only at hSw); go_simp; try with_reducible rfl
  simp only [Act.put, List.setIfInBounds_toArray, List.set_cons_zero, List.set_cons_succ, List.getElem_toArray, List.getElem_cons_zero, List.getElem_cons_succ]
  refine anyL_take (k := 12) (i := 4) (v := ?_) rfl (by kernel_rfl) (by kernel_rfl) (by kernel_rfl) (by kernel_rfl) (fun _ _ _ h => h) (Or.inl ⟨by rfl, ?_⟩) (by assumption) ?_
  rotate_left
  · intro w hSw; (try dsimp only at hSw); go_simp; try with_reducible rfl
  simp only [Act.put, List.setIfInBounds_toArray, List.set_cons_zero, List.set_cons_succ, List.getElem_toArray, List.getElem_cons_zero, List.getElem_cons_succ]
  refine anyL_take (k := 12) (i := 5) (v := ?_) rfl (by kernel_rfl) (by kernel_rfl) (by kernel_rfl) (by kernel_rfl) (fun _ _ _ h => h) (Or.inl ⟨by rfl, ?_⟩) (by assumption) ?_
  rotate_left
  · intro w hSw; (try dsimp only at hSw); go_simp; try with_reducible rfl
  simp only [Act.put, List.setIfInBounds_toArray, List.set_cons_zero, List.set_cons_succ, List.getElem_toArray, List.getElem_cons_zero, List.getElem_cons_succ]
  refine anyL_ready (rs := [6]) (by kernel_rfl) (by simp) ?_
  refine AllL.cons rfl (fun K hK => ?_) ?_
  rotate_left
  · exact AllL.nil
  go_simp
  have KB : Bl w2 ((w2.alloc (.cells #[.int .u8 x.k, .string x.m, .string x.n, .int .i64 x.b, .int .i64 x.x, .int .i64 x.lo, .int .i64 x.hi, .slice x.ns.p x.ns.n x.ns.c, .slice x.fs.p x.fs.n x.fs.c, .slice x.rs.p x.rs.n x.rs.c, .slice x.ps.p x.ps.n x.ps.c, .int .i64 x.r] 43)).drew) := (bl_new _ _).on (bl_drew _)
  refine hK.out _ _ (HSS _ KB) (fun hHeld => ?_)
  clear hK K
  try simp only [Act.put, List.setIfInBounds_toArray, List.set_cons_zero, List.set_cons_succ, List.getElem_toArray, List.getElem_cons_zero, List.getElem_cons_succ]
  refine anyL_ready (rs := [7]) (by kernel_rfl) (by simp) ?_
  refine AllL.cons rfl (fun K hK => ?_) ?_
  rotate_left
  · exact AllL.nil
  refine step_append_lies _ (by rfl) _ _ 29 (by rfl) 0 43 i0 _ 12 176 Try.underlying29 hi hz0 hz1 hz2 (by rfl) (by omega) (.slice (some ⟨g, 0, none⟩) n cap) n (rowT L) (by rfl) ((by have := (T2.on KB).tab.own; rw [HN.out] at this; exact this)) ⟨w2.heap.size, 0, none⟩ 1 1 x.arr.toList (by rfl) (by rfl) (fun j u hu => (by rw [Addr.add_mid, Nat.zero_add, (((Bx.new w2 43 x.arr).on (bl_drew _)).at j).1]; simpa using hu)) (fun u hu => (Array.all_eq_true_iff_forall_mem.1 x.one) u (by simpa using hu)) (by omega) (by unfold maxLen; omega) (by omega) (Nat.zero_le _) (w2.heap.size + 1) (by simp [World.drew]) ?_
  intro g' cap' w4 hown hgrow hat hlt
  have hT3 := T2.on KB
  have hgt := hT3.tab.ne
  have ht4 : w4.heap[t]? = some (.cells #[.slice (some ⟨g, 0, none⟩) n cap] 31) := by
    rw [hgrow.block t hT3.tab.t.1 (by simp [Value.ownBlock]; exact hgt), ← HN.out]
    exact hT3.tab.c
  have H9 : w4.cell? ⟨t, 0, none⟩ = some (.slice (some ⟨g, 0, none⟩) n cap) ∧ (w4.cell? ⟨w.heap.size, 0, none⟩ = some (.int .u8 x.k) ∧ w4.cell? ⟨w.heap.size, 1, none⟩ = some (.string x.m) ∧ w4.cell? ⟨w.heap.size, 2, none⟩ = some (.string x.n) ∧ w4.cell? ⟨w.heap.size, 3, none⟩ = some (.int .i64 x.b) ∧ w4.cell? ⟨w.heap.size, 4, none⟩ = some (.int .i64 x.x) ∧ w4.cell? ⟨w.heap.size, 5, none⟩ = some (.int .i64 x.lo) ∧ w4.cell? ⟨w.heap.size, 6, none⟩ = some (.int .i64 x.hi) ∧ w4.cell? ⟨w.heap.size, 7, none⟩ = some (.slice x.ns.p x.ns.n x.ns.c) ∧ w4.cell? ⟨w.heap.size, 8, none⟩ = some (.slice x.fs.p x.fs.n x.fs.c) ∧ w4.cell? ⟨w.heap.size, 9, none⟩ = some (.slice x.rs.p x.rs.n x.rs.c) ∧ w4.cell? ⟨w.heap.size, 10, none⟩ = some (.slice x.ps.p x.ps.n x.ps.c) ∧ w4.cell? ⟨w.heap.size, 11, none⟩ = some (.int .i64 x.r)) := by
    refine ⟨by simp [World.cell?, ht4], Bx.all ?_⟩
    have h1 := XB.on KB
    exact (hgrow.block w.heap.size (Array.getElem?_eq_some_iff.1 h1).1 (by have := HTK.out.tab.t.2; simp [Value.ownBlock]; omega)).trans h1
  have f9 : w4.frozen? ⟨t, 0, none⟩ = false := by simp [World.frozen?, ht4]
  have HE := Lib.hid (And.intro hown (And.intro hgrow (And.intro hat (And.intro hlt (And.intro KB (And.intro ht4 hs2))))))
  clear hown hgrow hat hlt hT3 hgt ht4 KB hs2 HSS XB
  refine hK.out _ _ (H9) (fun hHeld => ?_)
  clear hK K
  try simp only [Act.put, List.setIfInBounds_toArray, List.set_cons_zero, List.set_cons_succ, List.getElem_toArray, List.getElem_cons_zero, List.getElem_cons_succ]
  refine anyL_take (k := 12) (i := 8) (v := ?_) rfl (by kernel_rfl) (by kernel_rfl) (by kernel_rfl) (by kernel_rfl) (fun _ _ _ h => h) (Or.inl ⟨by rfl, ?_⟩) (by assumption) ?_
  rotate_left
  · intro w hSw; (try dsimp only at hSw); go_simp; try with_reducible rfl
  simp only [Act.put, List.setIfInBounds_toArray, List.set_cons_zero, List.set_cons_succ, List.getElem_toArray, List.getElem_cons_zero, List.getElem_cons_succ]
  refine anyL_take (k := 12) (i := 9) (v := ?_) rfl (by kernel_rfl) (by kernel_rfl) (by kernel_rfl) (by kernel_rfl) (fun _ _ _ h => h) (Or.inl ⟨by rfl, ?_⟩) (by assumption) ?_
  rotate_left
  · intro w hSw; (try dsimp only at hSw); go_simp; try with_reducible rfl
  simp only [Act.put, List.setIfInBounds_toArray, List.set_cons_zero, List.set_cons_succ, List.getElem_toArray, List.getElem_cons_zero, List.getElem_cons_succ]
  refine anyL_ready (rs := [10]) (by kernel_rfl) (by simp) ?_
  refine AllL.last rfl (by kernel_rfl) (fun K hK => ?_) ?_
  rotate_left
  · exact AllL.nil
  go_simp
  refine hK.out _ _ ?_
  clear hK K
  try simp only [Act.put, List.setIfInBounds_toArray, List.set_cons_zero, List.set_cons_succ, List.getElem_toArray, List.getElem_cons_zero, List.getElem_cons_succ]
  refine anyL_done (by kernel_rfl) ?_ _
  clear H9 hHeld T2 hc2 HB
  obtain ⟨w5, hw5⟩ : ∃ w5, w4.setCell ⟨t, 0, none⟩ (.slice (some ⟨g', 0, none⟩) (n + 1) cap') = w5 := ⟨_, rfl⟩
  rw [hw5]
  have c5 : w5.cell? ⟨t, 0, none⟩ = some (.slice (some ⟨g', 0, none⟩) (n + 1) cap') := by
    have ht4 := HE.out.2.2.2.2.2.1
    have := (Bx.cell (show Bx w4 t 31 #[.slice (some ⟨g, 0, none⟩) n cap] from ht4) 0 (.slice (some ⟨g', 0, none⟩) (n + 1) cap')).at 0
    rw [hw5] at this
    simpa using this.1
  have HW5 := Lib.hid hw5
  clear hw5 f9
  go_wp2_with fail
  go_ret2
  refine ⟨rfl, ?_⟩
  obtain ⟨hown, hgrow, hat, hlt, KB, ht4, hs2⟩ := HE.out
  have hw5 := HW5.out
  have hsB : w2.heap.size + 1 ≤ ((w2.alloc (.cells #[.int .u8 x.k, .string x.m, .string x.n, .int .i64 x.b, .int .i64 x.x, .int .i64 x.lo, .int .i64 x.hi, .slice x.ns.p x.ns.n x.ns.c, .slice x.fs.p x.fs.n x.fs.c, .slice x.rs.p x.rs.n x.rs.c, .slice x.ps.p x.ps.n x.ps.c, .int .i64 x.r] 43)).drew).heap.size := by simp [World.drew]
  have hs34 := hgrow.size
  have hT := HTK.out.tab.t
  have h5b : ∀ k, k ≠ t → w5.heap[k]? = w4.heap[k]? := fun k hk => by rw [← hw5]; simp [World.setCell, Array.getElem?_modify, Ne.symm hk]
  have h5s : w5.heap.size = w4.heap.size := by rw [← hw5]; simp
  have hgg : g' = g ∨ g' = w2.heap.size + 1 := by
    rcases hat with h1 | h1
    · simp only [Value.ownBlock, Option.some.injEq] at h1; exact .inl h1.symm
    · exact .inr h1
  have hne : t ≠ g' := by
    rcases hgg with h1 | h1
    · rw [h1]; exact HTK.out.tab.ne
    · omega
  have F25 : Fx [t, g] w2 w5 := by
    refine ⟨?_, ?_, ?_, by omega, fun k hk hm => ?_⟩
    · rw [← hw5]; exact hgrow.os.trans KB.os
    · rw [← hw5]; exact hgrow.tape.trans KB.tape
    · rw [← hw5]; exact hgrow.output.trans KB.output
    · simp only [List.mem_cons, List.not_mem_nil, or_false, not_or] at hm
      rw [h5b k hm.1, hgrow.block k (by omega) (by simp [Value.ownBlock]; exact hm.2)]
      exact KB.block k hk
  have F05 : Fx [t, g] w w5 := (Fx.of [t, g] KK.out).on F25 (fun j hj => .inl hj)
  refine ⟨F05, g', cap', ?_, by rw [h5s]; exact hlt, fun M' h1 h2 h3 => ?_⟩
  · rcases hgg with h | h
    · exact .inl h
    · right; have := KK.out.size; omega
  · have hMM : ∀ j ∈ [t, g], j ∈ M := fun j hj => by
      simp only [List.mem_cons, List.not_mem_nil, or_false] at hj
      rcases hj with rfl | rfl
      · exact HTK.out.mt
      · exact HTK.out.mg
    have hw2 := KK.out.size
    have hnn := HN.out
    have F : Fx M w w5 := ⟨F05.os, F05.tape, F05.output, F05.size, fun k hk hm => F05.block k hk (fun h => hm (hMM k h))⟩
    have hM3 : ∀ j ∈ M', j ∈ M ∨ w.heap.size ≤ j := fun j hj => by
      rcases h3 j hj with h | h
      · exact .inl h
      · rcases hgg with h4 | h4
        · rw [h, h4]; exact .inl HTK.out.mg
        · right; omega
    refine ⟨⟨?_, ?_, ?_, hne, by rw [h5s]; omega⟩, ?_, fun i x1 c1 hx hc => ?_, h1, h2, fun j hj => ?_⟩
    · rw [← hw5]
      have := Bx.cell (show Bx w4 t 31 #[.slice (some ⟨g, 0, none⟩) n cap] from ht4) 0 (.slice (some ⟨g', 0, none⟩) (n + 1) cap')
      rw [List.length_append, hnn]
      exact this
    · rw [List.length_append, hnn]
      have e : rowT (L ++ [x]) = rowT L ++ x.arr.toList := by unfold rowT; rw [List.flatMap_append]; simp
      rw [e]
      exact own_same hown (h5b g' (Ne.symm hne))
    · rw [List.length_append, hnn]; simp; omega
    · rw [List.length_append, List.length_append, HTK.out.len]; rfl
    · by_cases hi : i < L.length
      · rw [List.getElem?_append_left hi] at hx
        rw [List.getElem?_append_left (by rw [HTK.out.len]; exact hi)] at hc
        exact (HTK.out.has i x1 c1 hx hc).next F hM3
      · have hlen : i < (L ++ [x]).length := (List.getElem?_eq_some_iff.1 hx).1
        simp only [List.length_append, List.length_cons, List.length_nil] at hlen
        obtain rfl : i = L.length := by omega
        rw [List.getElem?_append_right (Nat.le_refl _), Nat.sub_self] at hx
        rw [List.getElem?_append_right (by rw [HTK.out.len]; exact Nat.le_refl _), HTK.out.len, Nat.sub_self] at hc
        simp only [List.getElem?_cons_zero, Option.some.injEq] at hx hc
        subst hx hc
        exact HXM.out.1.next F hM3
    · rcases h3 j hj with h | h
      · have := HTK.out.lt j h; omega
      · rw [h, h5s]; exact hlt
end Go.Proofs.Ytepfknfadpkigaa
