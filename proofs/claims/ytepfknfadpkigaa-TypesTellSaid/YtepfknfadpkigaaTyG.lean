/- Package types: Add. -/
import Derived.Test.YtepfknfadpkigaaTyF
import Derived.Test.YtepfknfadpkigaaHdL
import Derived.Deep.Cut
namespace Go.Proofs.Ytepfknfadpkigaa
open Go.RowKit
set_option maxHeartbeats 1000000
set_option maxRecDepth 100000
set_option linter.unusedVariables false
set_option linter.unusedSimpArgs false

def AddP (w : World) (t g : Nat) (M : List Nat) (L : List TyV) (K : List TyK) (c : TyK) (w' : World) : Prop := Fx [t, g] w w' ∧ ∃ (y : TyV) (g' cap' : Nat), (g' = g ∨ w.heap.size ≤ g') ∧ g' < w'.heap.size ∧ ∀ M' : List Nat, t ∈ M' → g' ∈ M' → (∀ j ∈ M', j ∈ M ∨ j = g') → TabK w' t g' cap' M' (L ++ [y]) (K ++ [c])
theorem Bx.all {w : World} {b : Nat} {x : TyV} (h : Bx w b 43 #[.int .u8 x.k, .string x.m, .string x.n, .int .i64 x.b, .int .i64 x.x, .int .i64 x.lo, .int .i64 x.hi, .slice x.ns.p x.ns.n x.ns.c, .slice x.fs.p x.fs.n x.fs.c, .slice x.rs.p x.rs.n x.rs.c, .slice x.ps.p x.ps.n x.ps.c, .int .i64 x.r]) : w.cell? ⟨b, 0, none⟩ = some (.int .u8 x.k) ∧ w.cell? ⟨b, 1, none⟩ = some (.string x.m) ∧ w.cell? ⟨b, 2, none⟩ = some (.string x.n) ∧ w.cell? ⟨b, 3, none⟩ = some (.int .i64 x.b) ∧ w.cell? ⟨b, 4, none⟩ = some (.int .i64 x.x) ∧ w.cell? ⟨b, 5, none⟩ = some (.int .i64 x.lo) ∧ w.cell? ⟨b, 6, none⟩ = some (.int .i64 x.hi) ∧ w.cell? ⟨b, 7, none⟩ = some (.slice x.ns.p x.ns.n x.ns.c) ∧ w.cell? ⟨b, 8, none⟩ = some (.slice x.fs.p x.fs.n x.fs.c) ∧ w.cell? ⟨b, 9, none⟩ = some (.slice x.rs.p x.rs.n x.rs.c) ∧ w.cell? ⟨b, 10, none⟩ = some (.slice x.ps.p x.ps.n x.ps.c) ∧ w.cell? ⟨b, 11, none⟩ = some (.int .i64 x.r) := by
  unfold Bx at h
  refine ⟨?_, ?_, ?_, ?_, ?_, ?_, ?_, ?_, ?_, ?_, ?_, ?_⟩ <;> simp [World.cell?, h]
theorem own_same {w w' : World} {B : Nat} {e : TypeId} {st g n cap : Nat} {xs : List Value} (h : w.ownsRow B e st (.slice (some ⟨g, 0, none⟩) n cap) n xs) (h2 : w'.heap[g]? = w.heap[g]?) : w'.ownsRow B e st (.slice (some ⟨g, 0, none⟩) n cap) n xs := by
  refine ⟨h.1, ?_⟩
  rcases h.2 with ⟨e, _⟩ | ⟨g', c', cur, e1, e2, e3, e4⟩
  · cases e
  · injection e1 with e1 e5 e6
    injection e1 with e1
    injection e1 with e1
    subst e1 e6
    exact .inr ⟨g, cap, cur, rfl, e2, h2.trans e3, e4⟩
theorem bl_drew (w : World) : Bl w w.drew := ⟨rfl, rfl, rfl, Nat.le_refl _, fun _ _ => rfl⟩
theorem add_no {w : World} {t g cap : Nat} {M : List Nat} {L : List TyV} {K : List TyK} (h : TabK w t g cap M L K) (x : TyV) (ha : addP x.k = false) : Calls Try.prog 22 #[.pointer (some ⟨t, 0, none⟩), x.val] w fun e w' => e = .returned (.tuple #[.int .i64 0, .int .i64 2]) ∧ Bl w w' := by
  have HL := fun w1 (k : Bl w w1) => len_tab (h.tab.on k)
  have hn := h.tab.n
  obtain ⟨n, hn2⟩ : ∃ n, L.length = n := ⟨_, rfl⟩
  rw [hn2] at HL hn
  have d1 : ((n : Int) == 0) = false := beq_eq_false_iff_ne.2 (by omega)
  have HB := addable_any x.k
  rw [ha] at HB
  clear h hn2
  go_enter Try.func22, Try.ntmps22
  go_wp2_with fail
  refine (HL _ (bl_new _ _)).mono ?_
  rintro e w1 ⟨rfl, k1⟩
  have X := ((Bx.new w 43 #[.int .u8 x.k, .string x.m, .string x.n, .int .i64 x.b, .int .i64 x.x, .int .i64 x.lo, .int .i64 x.hi, .slice x.ns.p x.ns.n x.ns.c, .slice x.fs.p x.fs.n x.fs.c, .slice x.rs.p x.rs.n x.rs.c, .slice x.ps.p x.ps.n x.ps.c, .int .i64 x.r]).on k1).at 0
  simp only [List.getElem?_toArray, List.getElem?_cons_zero] at X
  obtain ⟨x0, f0⟩ := X
  have KK := Lib.hid ((bl_new w (.cells #[.int .u8 x.k, .string x.m, .string x.n, .int .i64 x.b, .int .i64 x.x, .int .i64 x.lo, .int .i64 x.hi, .slice x.ns.p x.ns.n x.ns.c, .slice x.fs.p x.fs.n x.fs.c, .slice x.rs.p x.rs.n x.rs.c, .slice x.ps.p x.ps.n x.ps.c, .int .i64 x.r] 43)).on k1)
  clear k1 HL
  go_wp2_with fail
  refine (HB _).mono ?_
  rintro e w2 ⟨rfl, k2⟩
  have KK := Lib.hid (KK.out.on k2)
  clear k2
  go_wp2_with fail
  go_ret2
  exact ⟨rfl, KK.out⟩
theorem add_ok {w : World} {t g cap : Nat} {M : List Nat} {L : List TyV} {K : List TyK} (h : TabK w t g cap M L K) (x : TyV) (c : TyK) (hx : Has w 0 x c) (ho : c.ok) (ha : addP x.k = true) (hL : L.length < 1024) : Calls Try.prog 22 #[.pointer (some ⟨t, 0, none⟩), x.val] w fun e w' => e = .returned (.tuple #[.int .i64 L.length, .int .i64 0]) ∧ AddP w t g M L K c w' := by
  have HL := fun w1 (k : Bl w w1) => len_tab (h.tab.on k)
  have hn := h.tab.n
  have HTK := Lib.hid h
  have HC := fun w1 (k : Bl w w1) => copied_any x c w1 (hx.on k) ho
  have HO := Lib.hid (And.intro ho hL)
  obtain ⟨n, hn2⟩ : ∃ n, L.length = n := ⟨_, rfl⟩
  have HN := Lib.hid hn2
  rw [hn2] at HL hn hL
  have d1 : ((n : Int) == 0) = false := beq_eq_false_iff_ne.2 (by omega)
  have d2 : decide ((n : Int) ≥ 1024) = false := decide_eq_false (by omega)
  have HB := addable_any x.k
  rw [ha] at HB
  obtain ⟨i0, hi, hz0, hz1, hz2⟩ := info_row infoT12
  rw [hn2]
  clear h hn2 hx ho ha
  go_enter Try.func22, Try.ntmps22
  go_wp2_with fail
  refine (HL _ (bl_new _ _)).mono ?_
  rintro e w1 ⟨rfl, k1⟩
  have KK := Lib.hid ((bl_new w (.cells #[.int .u8 x.k, .string x.m, .string x.n, .int .i64 x.b, .int .i64 x.x, .int .i64 x.lo, .int .i64 x.hi, .slice x.ns.p x.ns.n x.ns.c, .slice x.fs.p x.fs.n x.fs.c, .slice x.rs.p x.rs.n x.rs.c, .slice x.ps.p x.ps.n x.ps.c, .int .i64 x.r] 43)).on k1)
  have XB := (Bx.new w 43 #[.int .u8 x.k, .string x.m, .string x.n, .int .i64 x.b, .int .i64 x.x, .int .i64 x.lo, .int .i64 x.hi, .slice x.ns.p x.ns.n x.ns.c, .slice x.fs.p x.fs.n x.fs.c, .slice x.rs.p x.rs.n x.rs.c, .slice x.ps.p x.ps.n x.ps.c, .int .i64 x.r]).on k1
  have X := XB.at 0
  simp only [List.getElem?_toArray, List.getElem?_cons_zero] at X
  obtain ⟨x0, f0⟩ := X
  have hs1 : w.heap.size + 1 ≤ w1.heap.size := by simpa using k1.size
  clear k1 HL
  go_wp2_with fail
  refine (HB _).mono ?_
  rintro e w2 ⟨rfl, k2⟩
  have KK := Lib.hid (KK.out.on k2)
  have XB := XB.on k2
  have hs2 : w.heap.size + 1 ≤ w2.heap.size := Nat.le_trans hs1 k2.size
  clear k2 x0 f0 hs1
  go_upto_region 8 with fail
  have T2 := HTK.out.on KK.out
  have hc2 := T2.tab.c0
  rw [HN.out] at hc2
  have HSS : ∀ w', Bl w2 w' → (w'.cell? ⟨t, 0, none⟩ = some (.slice (some ⟨g, 0, none⟩) n cap) ∧ (w'.cell? ⟨w.heap.size, 0, none⟩ = some (.int .u8 x.k) ∧ w'.cell? ⟨w.heap.size, 1, none⟩ = some (.string x.m) ∧ w'.cell? ⟨w.heap.size, 2, none⟩ = some (.string x.n) ∧ w'.cell? ⟨w.heap.size, 3, none⟩ = some (.int .i64 x.b) ∧ w'.cell? ⟨w.heap.size, 4, none⟩ = some (.int .i64 x.x) ∧ w'.cell? ⟨w.heap.size, 5, none⟩ = some (.int .i64 x.lo) ∧ w'.cell? ⟨w.heap.size, 6, none⟩ = some (.int .i64 x.hi) ∧ w'.cell? ⟨w.heap.size, 7, none⟩ = some (.slice x.ns.p x.ns.n x.ns.c) ∧ w'.cell? ⟨w.heap.size, 8, none⟩ = some (.slice x.fs.p x.fs.n x.fs.c) ∧ w'.cell? ⟨w.heap.size, 9, none⟩ = some (.slice x.rs.p x.rs.n x.rs.c) ∧ w'.cell? ⟨w.heap.size, 10, none⟩ = some (.slice x.ps.p x.ps.n x.ps.c) ∧ w'.cell? ⟨w.heap.size, 11, none⟩ = some (.int .i64 x.r))) := fun w' k => by
    refine ⟨?_, (XB.on k).all⟩
    have := (T2.on k).tab.c0
    rw [HN.out] at this
    exact this
  refine region_l 11 (S := fun w' => w'.cell? ⟨t, 0, none⟩ = some (.slice (some ⟨g, 0, none⟩) n cap) ∧ (w'.cell? ⟨w.heap.size, 0, none⟩ = some (.int .u8 x.k) ∧ w'.cell? ⟨w.heap.size, 1, none⟩ = some (.string x.m) ∧ w'.cell? ⟨w.heap.size, 2, none⟩ = some (.string x.n) ∧ w'.cell? ⟨w.heap.size, 3, none⟩ = some (.int .i64 x.b) ∧ w'.cell? ⟨w.heap.size, 4, none⟩ = some (.int .i64 x.x) ∧ w'.cell? ⟨w.heap.size, 5, none⟩ = some (.int .i64 x.lo) ∧ w'.cell? ⟨w.heap.size, 6, none⟩ = some (.int .i64 x.hi) ∧ w'.cell? ⟨w.heap.size, 7, none⟩ = some (.slice x.ns.p x.ns.n x.ns.c) ∧ w'.cell? ⟨w.heap.size, 8, none⟩ = some (.slice x.fs.p x.fs.n x.fs.c) ∧ w'.cell? ⟨w.heap.size, 9, none⟩ = some (.slice x.rs.p x.rs.n x.rs.c) ∧ w'.cell? ⟨w.heap.size, 10, none⟩ = some (.slice x.ps.p x.ps.n x.ps.c) ∧ w'.cell? ⟨w.heap.size, 11, none⟩ = some (.int .i64 x.r))) (by kernel_rfl) ?_ (fun hHeld => ?_)
  · exact HSS _ (bl_drew w2)
  refine anyL_take (k := 12) (i := 0) (v := ?_) rfl (by kernel_rfl) (by kernel_rfl) (by kernel_rfl) (by kernel_rfl) (fun _ _ _ h => h) (Or.inl ⟨by rfl, ?_⟩) (by assumption) ?_
  rotate_left
  · intro w hSw; (try dsimp only at hSw); go_simp; try with_reducible rfl
  simp only [Act.put, List.setIfInBounds_toArray, List.set_cons_zero, List.set_cons_succ, List.getElem_toArray, List.getElem_cons_zero, List.getElem_cons_succ]
  refine anyL_take (k := 12) (i := 1) (v := ?_) rfl (by kernel_rfl) (by kernel_rfl) (by kernel_rfl) (by kernel_rfl) (fun _ _ _ h => h) (Or.inl ⟨by rfl, ?_⟩) (by assumption) ?_
  rotate_left
  · intro w hSw; (try dsimp only at hSw); go_simp; try with_reducible rfl
  simp only [Act.put, List.setIfInBounds_toArray, List.set_cons_zero, List.set_cons_succ, List.getElem_toArray, List.getElem_cons_zero, List.getElem_cons_succ]
  refine anyL_take (k := 12) (i := 2) (v := ?_) rfl (by kernel_rfl) (by kernel_rfl) (by kernel_rfl) (by kernel_rfl) (fun _ _ _ h => h) (Or.inl ⟨by rfl, ?_⟩) (by assumption) ?_
  rotate_left
  · intro w hSw; (try dsimp only at hSw); go_simp; try with_reducible rfl
  simp only [Act.put, List.setIfInBounds_toArray, List.set_cons_zero, List.set_cons_succ, List.getElem_toArray, List.getElem_cons_zero, List.getElem_cons_succ]
  refine anyL_take (k := 12) (i := 3) (v := ?_) rfl (by kernel_rfl) (by kernel_rfl) (by kernel_rfl) (by kernel_rfl) (fun _ _ _ h => h) (Or.inl ⟨by rfl, ?_⟩) (by assumption) ?_
  rotate_left
  · intro w hSw; (try dsimp only at hSw); go_simp; try with_reducible rfl
  simp only [Act.put, List.setIfInBounds_toArray, List.set_cons_zero, List.set_cons_succ, List.getElem_toArray, List.getElem_cons_zero, List.getElem_cons_succ]
  refine anyL_take (k := 12) (i := 4) (v := ?_) rfl (by kernel_rfl) (by kernel_rfl) (by kernel_rfl) (by kernel_rfl) (fun _ _ _ h => h) (Or.inl ⟨by rfl, ?_⟩) (by assumption) ?_
  rotate_left
  · intro w hSw; (try dsimp only at hSw); go_simp; try with_reducible rfl
  simp only [Act.put, List.setIfInBounds_toArray, List.set_cons_zero, List.set_cons_succ, List.getElem_toArray, List.getElem_cons_zero, List.getElem_cons_succ]
  refine anyL_take (k := 12) (i := 5) (v := ?_) rfl (by kernel_rfl) (by kernel_rfl) (by kernel_rfl) (by kernel_rfl) (fun _ _ _ h => h) (Or.inl ⟨by rfl, ?_⟩) (by assumption) ?_
  rotate_left
  · intro w hSw; (try dsimp only at hSw); go_simp; try with_reducible rfl
  simp only [Act.put, List.setIfInBounds_toArray, List.set_cons_zero, List.set_cons_succ, List.getElem_toArray, List.getElem_cons_zero, List.getElem_cons_succ]
  refine anyL_ready (rs := [6]) (by kernel_rfl) (by simp) ?_
  refine AllL.cons rfl (fun K hK => ?_) ?_
  rotate_left
  · exact AllL.nil
  go_simp
  refine (HC _ (KK.out.on (bl_drew w2))).mono ?_
  rintro e w3 ⟨y, rfl, k3, hy⟩
  have k23 : Bl w2 w3 := (bl_drew w2).on k3
  have H9 := HSS w3 k23
  have HY := Lib.hid hy
  clear hy HC k3
  go_wp2_with fail
  refine hK.out _ _ (H9) (fun hHeld => ?_)
  clear hK K
  try simp only [Act.put, List.setIfInBounds_toArray, List.set_cons_zero, List.set_cons_succ, List.getElem_toArray, List.getElem_cons_zero, List.getElem_cons_succ]
  refine anyL_ready (rs := [7]) (by kernel_rfl) (by simp) ?_
  refine AllL.cons rfl (fun K hK => ?_) ?_
  rotate_left
  · exact AllL.nil
  go_simp
  have H9 := HSS _ (k23.on (bl_new w3 (.cells y.arr 43)))
  refine hK.out _ _ (H9) (fun hHeld => ?_)
  clear hK K
  try simp only [Act.put, List.setIfInBounds_toArray, List.set_cons_zero, List.set_cons_succ, List.getElem_toArray, List.getElem_cons_zero, List.getElem_cons_succ]
  refine anyL_ready (rs := [8]) (by kernel_rfl) (by simp) ?_
  refine AllL.cons rfl (fun K hK => ?_) ?_
  rotate_left
  · exact AllL.nil
  refine step_append_lies _ (by rfl) _ _ 29 (by rfl) 0 43 i0 _ 12 176 Try.underlying29 hi hz0 hz1 hz2 (by rfl) (by omega) (.slice (some ⟨g, 0, none⟩) n cap) n (rowT L) (by rfl) ((by have := ((T2.on k23).on (bl_new w3 (.cells y.arr 43))).tab.own; rw [HN.out] at this; exact this)) ⟨w3.heap.size, 0, none⟩ 1 1 y.arr.toList (by rfl) (by rfl) (fun j u hu => (by rw [Addr.add_mid, Nat.zero_add, (Bx.new w3 43 y.arr).at j |>.1]; simpa using hu)) (fun u hu => (Array.all_eq_true_iff_forall_mem.1 y.one) u (by simpa using hu)) (by omega) (by unfold maxLen; omega) (by omega) (Nat.zero_le _) (w3.heap.size + 1) (by simp) ?_
  intro g' cap' w4 hown hgrow hat hlt
  have hT3 := (T2.on k23).on (bl_new w3 (.cells y.arr 43))
  have hgt := hT3.tab.ne
  have ht4 : w4.heap[t]? = some (.cells #[.slice (some ⟨g, 0, none⟩) n cap] 72) := by
    rw [hgrow.block t hT3.tab.t.1 (by simp [Value.ownBlock]; exact hgt), ← HN.out]
    exact hT3.tab.c
  have H9 : w4.cell? ⟨t, 0, none⟩ = some (.slice (some ⟨g, 0, none⟩) n cap) ∧ (w4.cell? ⟨w.heap.size, 0, none⟩ = some (.int .u8 x.k) ∧ w4.cell? ⟨w.heap.size, 1, none⟩ = some (.string x.m) ∧ w4.cell? ⟨w.heap.size, 2, none⟩ = some (.string x.n) ∧ w4.cell? ⟨w.heap.size, 3, none⟩ = some (.int .i64 x.b) ∧ w4.cell? ⟨w.heap.size, 4, none⟩ = some (.int .i64 x.x) ∧ w4.cell? ⟨w.heap.size, 5, none⟩ = some (.int .i64 x.lo) ∧ w4.cell? ⟨w.heap.size, 6, none⟩ = some (.int .i64 x.hi) ∧ w4.cell? ⟨w.heap.size, 7, none⟩ = some (.slice x.ns.p x.ns.n x.ns.c) ∧ w4.cell? ⟨w.heap.size, 8, none⟩ = some (.slice x.fs.p x.fs.n x.fs.c) ∧ w4.cell? ⟨w.heap.size, 9, none⟩ = some (.slice x.rs.p x.rs.n x.rs.c) ∧ w4.cell? ⟨w.heap.size, 10, none⟩ = some (.slice x.ps.p x.ps.n x.ps.c) ∧ w4.cell? ⟨w.heap.size, 11, none⟩ = some (.int .i64 x.r)) := by
    refine ⟨by simp [World.cell?, ht4], Bx.all ?_⟩
    have h1 := ((XB.on k23).on (bl_new w3 (.cells y.arr 43)))
    exact (hgrow.block w.heap.size (Array.getElem?_eq_some_iff.1 h1).1 (by have := HTK.out.tab.t.2; simp [Value.ownBlock]; omega)).trans h1
  have f9 : w4.frozen? ⟨t, 0, none⟩ = false := by simp [World.frozen?, ht4]
  have HE := Lib.hid (And.intro hown (And.intro hgrow (And.intro hat (And.intro hlt (And.intro k23 (And.intro ht4 hs2))))))
  clear hown hgrow hat hlt hT3 hgt ht4 k23 hs2 HSS XB
  refine hK.out _ _ (H9) (fun hHeld => ?_)
  clear hK K
  try simp only [Act.put, List.setIfInBounds_toArray, List.set_cons_zero, List.set_cons_succ, List.getElem_toArray, List.getElem_cons_zero, List.getElem_cons_succ]
  refine anyL_take (k := 12) (i := 9) (v := ?_) rfl (by kernel_rfl) (by kernel_rfl) (by kernel_rfl) (by kernel_rfl) (fun _ _ _ h => h) (Or.inl ⟨by rfl, ?_⟩) (by assumption) ?_
  rotate_left
  · intro w hSw; (try dsimp only at hSw); go_simp; try with_reducible rfl
  simp only [Act.put, List.setIfInBounds_toArray, List.set_cons_zero, List.set_cons_succ, List.getElem_toArray, List.getElem_cons_zero, List.getElem_cons_succ]
  refine anyL_take (k := 12) (i := 10) (v := ?_) rfl (by kernel_rfl) (by kernel_rfl) (by kernel_rfl) (by kernel_rfl) (fun _ _ _ h => h) (Or.inl ⟨by rfl, ?_⟩) (by assumption) ?_
  rotate_left
  · intro w hSw; (try dsimp only at hSw); go_simp; try with_reducible rfl
  simp only [Act.put, List.setIfInBounds_toArray, List.set_cons_zero, List.set_cons_succ, List.getElem_toArray, List.getElem_cons_zero, List.getElem_cons_succ]
  refine anyL_ready (rs := [11]) (by kernel_rfl) (by simp) ?_
  refine AllL.last rfl (by kernel_rfl) (fun K hK => ?_) ?_
  rotate_left
  · exact AllL.nil
  go_simp
  refine hK.out _ _ ?_
  clear hK K
  try simp only [Act.put, List.setIfInBounds_toArray, List.set_cons_zero, List.set_cons_succ, List.getElem_toArray, List.getElem_cons_zero, List.getElem_cons_succ]
  refine anyL_done (by kernel_rfl) ?_ _
  clear H9 f9 hHeld T2 hc2 HB
  go_wp2_with fail
  go_ret2
  obtain ⟨hown, hgrow, hat, hlt, k23, ht4, hs2⟩ := HE.out
  refine ⟨rfl, ?_⟩
  obtain ⟨w5, hw5⟩ : ∃ w5, w4.setCell ⟨t, 0, none⟩ (.slice (some ⟨g', 0, none⟩) (n + 1) cap') = w5 := ⟨_, rfl⟩
  rw [hw5]
  have hs34 := hgrow.size
  simp only [World.size_alloc] at hs34
  have hs23 := k23.size
  have hT := HTK.out.tab.t
  have h5b : ∀ k, k ≠ t → w5.heap[k]? = w4.heap[k]? := fun k hk => by rw [← hw5]; simp [World.setCell, Array.getElem?_modify, Ne.symm hk]
  have h5s : w5.heap.size = w4.heap.size := by rw [← hw5]; simp
  have hgg : g' = g ∨ g' = w3.heap.size + 1 := by
    rcases hat with h1 | h1
    · simp only [Value.ownBlock, Option.some.injEq] at h1; exact .inl h1.symm
    · exact .inr h1
  have hne : t ≠ g' := by
    rcases hgg with h1 | h1
    · rw [h1]; exact HTK.out.tab.ne
    · omega
  have F35 : Fx [t, g] w3 w5 := by
    refine ⟨?_, ?_, ?_, by omega, fun k hk hm => ?_⟩
    · rw [← hw5]; exact hgrow.os
    · rw [← hw5]; exact hgrow.tape
    · rw [← hw5]; exact hgrow.output
    · simp only [List.mem_cons, List.not_mem_nil, or_false, not_or] at hm
      rw [h5b k hm.1, hgrow.block k (by simp; omega) (by simp [Value.ownBlock]; exact hm.2)]
      exact heap_alloc_old _ _ hk
  have F05 : Fx [t, g] w w5 := (Fx.of [t, g] (KK.out.on k23)).on F35 (fun j hj => .inl hj)
  refine ⟨F05, y, g', cap', ?_, by rw [h5s]; exact hlt, fun M' h1 h2 h3 => ?_⟩
  · rcases hgg with h | h
    · exact .inl h
    · right; have := KK.out.size; omega
  · have hMM : ∀ j ∈ [t, g], j ∈ M := fun j hj => by
      simp only [List.mem_cons, List.not_mem_nil, or_false] at hj
      rcases hj with rfl | rfl
      · exact HTK.out.mt
      · exact HTK.out.mg
    have hw2 := KK.out.size
    have hok := HO.out
    have hnn := HN.out
    refine ⟨⟨?_, ?_, ?_, hne, by rw [h5s]; omega⟩, ?_, fun i x1 c1 hx hc => ?_, fun d hd => ?_, h1, h2, fun j hj => ?_⟩
    · rw [← hw5]
      have := Bx.cell (show Bx w4 t 72 #[.slice (some ⟨g, 0, none⟩) n cap] from ht4) 0 (.slice (some ⟨g', 0, none⟩) (n + 1) cap')
      rw [List.length_append, hnn]
      exact this
    · rw [List.length_append, hnn]
      have e : rowT (L ++ [y]) = rowT L ++ y.arr.toList := by unfold rowT; rw [List.flatMap_append]; simp
      rw [e]
      exact own_same hown (h5b g' (Ne.symm hne))
    · rw [List.length_append, hnn]; simp; omega
    · rw [List.length_append, List.length_append, HTK.out.len]; rfl
    · by_cases hi : i < L.length
      · rw [List.getElem?_append_left hi] at hx
        rw [List.getElem?_append_left (by rw [HTK.out.len]; exact hi)] at hc
        have F : Fx M w w5 := ⟨F05.os, F05.tape, F05.output, F05.size, fun k hk hm => F05.block k hk (fun h => hm (hMM k h))⟩
        refine (HTK.out.has i x1 c1 hx hc).next F (fun j hj => ?_)
        rcases h3 j hj with h | h
        · exact .inl h
        · rcases hgg with h4 | h4
          · rw [h, h4]; exact .inl HTK.out.mg
          · right; omega
      · have hlen : i < (L ++ [y]).length := (List.getElem?_eq_some_iff.1 hx).1
        simp only [List.length_append, List.length_cons, List.length_nil] at hlen
        obtain rfl : i = L.length := by omega
        rw [List.getElem?_append_right (Nat.le_refl _), Nat.sub_self] at hx
        rw [List.getElem?_append_right (by rw [HTK.out.len]; exact Nat.le_refl _), HTK.out.len, Nat.sub_self] at hc
        simp only [List.getElem?_cons_zero, Option.some.injEq] at hx hc
        subst hx hc
        have hyM : HasM w3 (t :: g :: M') y c := HasM.of HY.out (fun j hj => by
          have hB : w2.drew.heap.size = w2.heap.size := rfl
          rw [hB]
          rcases List.mem_cons.1 hj with rfl | hj
          · left; omega
          · rcases List.mem_cons.1 hj with rfl | hj
            · left; omega
            · rcases h3 j hj with h | h
              · have := HTK.out.lt j h; left; omega
              · rcases hgg with h4 | h4
                · left; omega
                · right; omega)
        refine hyM.next ⟨F35.os, F35.tape, F35.output, F35.size, fun k hk hm => F35.block k hk (fun h => hm ?_)⟩ (fun j hj => .inl (List.mem_cons_of_mem _ (List.mem_cons_of_mem _ hj)))
        simp only [List.mem_cons, List.not_mem_nil, or_false] at h
        rcases h with rfl | rfl
        · exact List.mem_cons_self
        · exact List.mem_cons_of_mem _ List.mem_cons_self
    · rcases List.mem_append.1 hd with hd | hd
      · exact HTK.out.ok d hd
      · obtain rfl := List.mem_singleton.1 hd
        exact hok.1
    · rcases h3 j hj with h | h
      · have := HTK.out.lt j h; omega
      · rw [h, h5s]; exact hlt
end Go.Proofs.Ytepfknfadpkigaa
