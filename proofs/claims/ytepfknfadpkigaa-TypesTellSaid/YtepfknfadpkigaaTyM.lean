/- Package types: Set. -/
import Derived.Test.YtepfknfadpkigaaTyL
namespace Go.Proofs.Ytepfknfadpkigaa
open Go.RowKit
set_option maxHeartbeats 1000000
set_option maxRecDepth 100000
set_option linter.unusedVariables false
set_option linter.unusedSimpArgs false

theorem run_storeVar_at {P : Program} (w : World) (g off : Nat) (t ty : TypeId) (cur cells : Array Value) (hg : w.heap[g]? = some (.cells cur t (0, 0))) (hi : (P.info? ty).map (·.size) = some cells.size)
    (ho : off + cells.size ≤ cur.size) (h1 : cells.all (·.oneCell') = true) :
    (storeVar ty ⟨g, off, none⟩ (.agg cells)).run P w = .ok () (w.setRow g (cur.toList.take off ++ cells.toList ++ cur.toList.drop (off + cells.size)).toArray) := by
  have := run_storeCells_at (P := P) g off t cells.toList 0 cur w hg (by simp; omega) (fun v hv => (Array.all_eq_true_iff_forall_mem.1 h1) v (by simpa using hv))
  cases hq : P.info? ty with
  | none => simp [hq] at hi
  | some i =>
    have hs : cells.size = i.size := by simp [hq] at hi; omega
    simp only [Nat.add_zero, Array.length_toList] at this
    simp [storeVar, sizeOf, typeInfo, hq, Value.cells, hs, this]
theorem step_store_at {P : Program} {w : World} {ops : Array Oper} {o : Oper} {a : Act} {K : Act → World → Prop} {Q : Exit → Act → World → Prop} {E : Prop} (hgd : o.guard = none) (ty : TypeId) (x y : Operand) (ho : o.op = .store ty x y)
    (g off : Nat) (cells : Array Value) (hx : a.eval x = .pointer (some ⟨g, off, none⟩)) (hy : a.eval y = .agg cells) (t : TypeId) (cur : Array Value) (hg : w.heap[g]? = some (.cells cur t (0, 0))) (hi : (P.info? ty).map (·.size) = some cells.size)
    (hof : off + cells.size ≤ cur.size) (h1 : cells.all (·.oneCell') = true) (h : K (a.put o.dst undef) (w.setRow g (cur.toList.take off ++ cells.toList ++ cur.toList.drop (off + cells.size)).toArray)) :
    if Region.wanted o (yielded ops a.tmps) = true then Oper.wp P o a w K Q else E := by
  have hw : Region.wanted o (yielded ops a.tmps) = true := by simp [Region.wanted, hgd]
  rw [if_pos hw]
  unfold Oper.wp execOp
  simp only [ho, hx, hy, Instr.storeAt, Instr.sureAddr, Sem.run_bind, Sem.run_pure, Result.andThen_ok, run_storeVar_at w g off t ty cur cells hg hi hof h1]
  exact h
theorem dropA {α : Type} (a b : List α) (n : Nat) : (a ++ b).drop (a.length + n) = b.drop n := by rw [List.drop_append]; simp
theorem takeA {α : Type} (a b : List α) (n : Nat) : (a ++ b).take (a.length + n) = a ++ b.take n := by rw [List.take_append]; simp [List.take_of_length_le]
theorem rowT_set : ∀ (L : List TyV) (k : Nat) (y : TyV), k < L.length → rowT (L.set k y) = (rowT L).take (k * 12) ++ y.arr.toList ++ (rowT L).drop (k * 12 + 12)
  | [], k, y, h => by simp at h
  | x :: r, 0, y, _ => by
    unfold rowT
    simp [List.set]
  | x :: r, k + 1, y, h => by
    have ih := rowT_set r k y (by simpa using h)
    unfold rowT at *
    rw [List.set_cons_succ, List.flatMap_cons, ih, List.flatMap_cons]
    have hl : x.arr.toList.length = 12 := rfl
    have e1 : (k + 1) * 12 = x.arr.toList.length + k * 12 := by rw [hl]; omega
    have e2 : (k + 1) * 12 + 12 = x.arr.toList.length + (k * 12 + 12) := by rw [hl]; omega
    rw [e2, dropA, e1, takeA, List.append_assoc, List.append_assoc, List.append_assoc]
theorem take_mid {α : Type} (c v : List α) (a m N : Nat) (hv : v.length = m) (h1 : a + m ≤ N) (h2 : N ≤ c.length) : (c.take a ++ v ++ c.drop (a + m)).take N = (c.take N).take a ++ v ++ (c.take N).drop (a + m) := by
  have e1 : (c.take a ++ v).length = a + m := by rw [List.length_append, List.length_take, hv]; omega
  rw [List.take_append, e1, List.take_of_length_le (by omega), List.take_take, Nat.min_eq_left (by omega), List.drop_take]
theorem Tab.set {w : World} {t g cap : Nat} {L : List TyV} (h : Tab w t g cap L) (k : Nat) (hk : k < L.length) (y : TyV) : ∃ cur : Array Value, w.heap[g]? = some (.cells cur 43) ∧ k * 12 + 12 ≤ cur.size ∧ Tab (w.setRow g (cur.toList.take (k * 12) ++ y.arr.toList ++ cur.toList.drop (k * 12 + 12)).toArray) t g cap (L.set k y) := by
  rcases h.own.2 with ⟨e, _⟩ | ⟨g', c', cur, e1, e2, e3, e4, e5, e6, e7⟩
  · cases e
  · injection e1 with e1 e8 e9
    injection e1 with e1
    injection e1 with e1
    subst e1 e9
    have hm : (k + 1) * 12 ≤ L.length * 12 := Nat.mul_le_mul_right 12 hk
    have hc : L.length * 12 ≤ cap * 12 := Nat.mul_le_mul_right 12 e4
    have hs : cur.size = cap * 12 := e6
    refine ⟨cur, e3, by omega, ?_, ⟨?_, .inr ⟨g, cap, _, ?_, Nat.zero_le _, setRow_heap w g cur _ _ (0, 0) e3, ?_, e5, ?_, ?_⟩⟩, by rw [List.length_set]; exact h.n, h.ne, by simpa using h.t⟩
    · rw [setRow_other w g t _ h.ne, List.length_set]; exact h.c
    · rw [rowT_len]
    · rw [List.length_set]
    · rw [List.length_set]; exact e4
    · simp only [List.size_toArray, List.length_append, List.length_take, List.length_drop, Array.length_toList]
      show min (k * 12) cur.size + 12 + (cur.size - (k * 12 + 12)) = _
      omega
    · rw [List.length_set, List.toList_toArray, take_mid _ _ _ 12 _ rfl (by omega) (by simp; omega), e7, ← rowT_set L k y hk]
theorem set_no {w : World} {t g cap : Nat} {M : List Nat} {L : List TyV} {K : List TyK} (h : TabK w t g cap M L K) (i : Int) (x : TyV) (hk : (kindP L i == 17) = false) : Calls Try.prog 23 #[.pointer (some ⟨t, 0, none⟩), .int .i64 i, x.val] w fun e w' => e = .returned (.int .i64 2) ∧ Bl w w' := by
  have HL := fun w1 (k : Bl w w1) => len_tab (h.tab.on k)
  have HA := fun w1 (k : Bl w w1) => at_any (h.tab.on k) i
  have hn := h.tab.n
  have hfd := fieldTy0
  obtain ⟨n, hn2⟩ : ∃ n, L.length = n := ⟨_, rfl⟩
  rw [hn2] at HL hn
  have d1 : ((n : Int) == 0) = false := beq_eq_false_iff_ne.2 (by omega)
  unfold kindP at hk
  generalize atP L i = y at *
  unfold TyV.val at HA
  have hk2 : (y.k != 17) = true := by show (!(y.k == 17)) = true; rw [hk]; rfl
  clear h hn2
  go_enter Try.func23, Try.ntmps23
  go_wp2_with fail
  refine (HL _ (bl_new _ _)).mono ?_
  rintro e w1 ⟨rfl, k1⟩
  have k1 := (bl_new w (.cells #[.int .u8 x.k, .string x.m, .string x.n, .int .i64 x.b, .int .i64 x.x, .int .i64 x.lo, .int .i64 x.hi, .slice x.ns.p x.ns.n x.ns.c, .slice x.fs.p x.fs.n x.fs.c, .slice x.rs.p x.rs.n x.rs.c, .slice x.ps.p x.ps.n x.ps.c, .int .i64 x.r] 43)).on k1
  go_wp2_with fail
  refine (HA _ k1).mono ?_
  rintro e w2 ⟨rfl, k2⟩
  have KK := Lib.hid (k1.on k2)
  clear k1 k2
  go_wp2_with fail
  go_ret
  exact ⟨rfl, KK.out⟩
def SetP (w : World) (t g cap : Nat) (M : List Nat) (L : List TyV) (K : List TyK) (k : Nat) (c : TyK) (w' : World) : Prop := Fx [g] w w' ∧ ∃ y : TyV, TabK w' t g cap M (L.set k y) (K.set k c)
theorem set_ok {w : World} {t g cap : Nat} {M : List Nat} {L : List TyV} {K : List TyK} (h : TabK w t g cap M L K) (k : Nat) (hk : k < L.length) (hf : kindP L k = 17) (x : TyV) (c : TyK) (hx : Has w 0 x c) (ho : c.ok) (ha : addP x.k = true) : Calls Try.prog 23 #[.pointer (some ⟨t, 0, none⟩), .int .i64 k, x.val] w fun e w' => e = .returned (.int .i64 0) ∧ SetP w t g cap M L K k c w' := by
  have HL := fun w1 (z : Bl w w1) => len_tab (h.tab.on z)
  have HA := fun w1 (z : Bl w w1) => at_any (h.tab.on z) k
  have HC := fun w1 (z : Bl w w1) => copied_any x c w1 (hx.on z) ho
  have HB := addable_any x.k
  rw [ha] at HB
  have hn := h.tab.n
  have hfd := fieldTy0
  have HTK := Lib.hid h
  have HO := Lib.hid ho
  obtain ⟨n, hn2⟩ : ∃ n, L.length = n := ⟨_, rfl⟩
  have HN := Lib.hid hn2
  rw [hn2] at HL hn hk
  have d1 : ((n : Int) == 0) = false := beq_eq_false_iff_ne.2 (by omega)
  unfold kindP at hf
  generalize atP L k = y at *
  unfold TyV.val at HA
  have hk2 : (y.k != 17) = false := by rw [hf]; rfl
  clear h hn2 hx ho ha
  go_enter Try.func23, Try.ntmps23
  go_wp2_with fail
  refine (HL _ (bl_new _ _)).mono ?_
  rintro e w1 ⟨rfl, k1⟩
  have XB := (Bx.new w 43 #[.int .u8 x.k, .string x.m, .string x.n, .int .i64 x.b, .int .i64 x.x, .int .i64 x.lo, .int .i64 x.hi, .slice x.ns.p x.ns.n x.ns.c, .slice x.fs.p x.fs.n x.fs.c, .slice x.rs.p x.rs.n x.rs.c, .slice x.ps.p x.ps.n x.ps.c, .int .i64 x.r]).on k1
  have k1 := (bl_new w (.cells #[.int .u8 x.k, .string x.m, .string x.n, .int .i64 x.b, .int .i64 x.x, .int .i64 x.lo, .int .i64 x.hi, .slice x.ns.p x.ns.n x.ns.c, .slice x.fs.p x.fs.n x.fs.c, .slice x.rs.p x.rs.n x.rs.c, .slice x.ps.p x.ps.n x.ps.c, .int .i64 x.r] 43)).on k1
  go_wp2_with fail
  refine (HA _ k1).mono ?_
  rintro e w2 ⟨rfl, k2⟩
  have XB := XB.on k2
  have k2 := k1.on k2
  have x0 := (XB.at 0).1
  simp only [List.getElem?_toArray, List.getElem?_cons_zero] at x0
  go_wp2_with fail
  refine (HB _).mono ?_
  rintro e w3 ⟨rfl, k3⟩
  have XB := XB.on k3
  have KK := Lib.hid (k2.on k3)
  clear k1 k2 k3 x0 HL HA HB
  go_upto_region 5 with fail
  have T3 := HTK.out.on KK.out
  have hc3 := T3.tab.c0
  rw [HN.out] at hc3
  have HSS : ∀ w', Bl w3 w' → (w'.cell? ⟨t, 0, none⟩ = some (.slice (some ⟨g, 0, none⟩) n cap) ∧ (w'.cell? ⟨w.heap.size, 0, none⟩ = some (.int .u8 x.k) ∧ w'.cell? ⟨w.heap.size, 1, none⟩ = some (.string x.m) ∧ w'.cell? ⟨w.heap.size, 2, none⟩ = some (.string x.n) ∧ w'.cell? ⟨w.heap.size, 3, none⟩ = some (.int .i64 x.b) ∧ w'.cell? ⟨w.heap.size, 4, none⟩ = some (.int .i64 x.x) ∧ w'.cell? ⟨w.heap.size, 5, none⟩ = some (.int .i64 x.lo) ∧ w'.cell? ⟨w.heap.size, 6, none⟩ = some (.int .i64 x.hi) ∧ w'.cell? ⟨w.heap.size, 7, none⟩ = some (.slice x.ns.p x.ns.n x.ns.c) ∧ w'.cell? ⟨w.heap.size, 8, none⟩ = some (.slice x.fs.p x.fs.n x.fs.c) ∧ w'.cell? ⟨w.heap.size, 9, none⟩ = some (.slice x.rs.p x.rs.n x.rs.c) ∧ w'.cell? ⟨w.heap.size, 10, none⟩ = some (.slice x.ps.p x.ps.n x.ps.c) ∧ w'.cell? ⟨w.heap.size, 11, none⟩ = some (.int .i64 x.r))) := fun w' z => by
    refine ⟨?_, (XB.on z).all⟩
    have := (T3.on z).tab.c0
    rw [HN.out] at this
    exact this
  refine region_l 8 (S := fun w' => w'.cell? ⟨t, 0, none⟩ = some (.slice (some ⟨g, 0, none⟩) n cap) ∧ (w'.cell? ⟨w.heap.size, 0, none⟩ = some (.int .u8 x.k) ∧ w'.cell? ⟨w.heap.size, 1, none⟩ = some (.string x.m) ∧ w'.cell? ⟨w.heap.size, 2, none⟩ = some (.string x.n) ∧ w'.cell? ⟨w.heap.size, 3, none⟩ = some (.int .i64 x.b) ∧ w'.cell? ⟨w.heap.size, 4, none⟩ = some (.int .i64 x.x) ∧ w'.cell? ⟨w.heap.size, 5, none⟩ = some (.int .i64 x.lo) ∧ w'.cell? ⟨w.heap.size, 6, none⟩ = some (.int .i64 x.hi) ∧ w'.cell? ⟨w.heap.size, 7, none⟩ = some (.slice x.ns.p x.ns.n x.ns.c) ∧ w'.cell? ⟨w.heap.size, 8, none⟩ = some (.slice x.fs.p x.fs.n x.fs.c) ∧ w'.cell? ⟨w.heap.size, 9, none⟩ = some (.slice x.rs.p x.rs.n x.rs.c) ∧ w'.cell? ⟨w.heap.size, 10, none⟩ = some (.slice x.ps.p x.ps.n x.ps.c) ∧ w'.cell? ⟨w.heap.size, 11, none⟩ = some (.int .i64 x.r))) (by kernel_rfl) ?_ (fun hHeld => ?_)
  · exact HSS _ (bl_drew w3)
  refine anyL_take (k := 12) (i := 0) (v := ?_) rfl (by kernel_rfl) (by kernel_rfl) (by kernel_rfl) (by kernel_rfl) (fun _ _ _ h => h) (Or.inl ⟨by rfl, ?_⟩) (by assumption) ?_
  rotate_left
  · intro w hSw; (try dsimp only at hSw); go_simp; try with_reducible rfl
  simp only [Act.put, List.setIfInBounds_toArray, List.set_cons_zero, List.set_cons_succ, List.getElem_toArray, List.getElem_cons_zero, List.getElem_cons_succ]
  refine anyL_take (k := 12) (i := 1) (v := ?_) rfl (by kernel_rfl) (by kernel_rfl) (by kernel_rfl) (by kernel_rfl) (fun _ _ _ h => h) (Or.inl ⟨by rfl, ?_⟩) (by assumption) ?_
  rotate_left
  · intro w hSw; (try dsimp only at hSw); go_simp; try with_reducible rfl
  simp only [Act.put, List.setIfInBounds_toArray, List.set_cons_zero, List.set_cons_succ, List.getElem_toArray, List.getElem_cons_zero, List.getElem_cons_succ]
  refine anyL_take (k := 12) (i := 2) (v := ?_) rfl (by kernel_rfl) (by kernel_rfl) (by kernel_rfl) (by kernel_rfl) (fun _ _ _ h => h) (Or.inl ⟨by rfl, ?_⟩) (by assumption) ?_
  rotate_left
  · intro w hSw; (try dsimp only at hSw); go_simp; try with_reducible rfl
  simp only [Act.put, List.setIfInBounds_toArray, List.set_cons_zero, List.set_cons_succ, List.getElem_toArray, List.getElem_cons_zero, List.getElem_cons_succ]
  refine anyL_take (k := 12) (i := 3) (v := ?_) rfl (by kernel_rfl) (by kernel_rfl) (by kernel_rfl) (by kernel_rfl) (fun _ _ _ h => h) (Or.inl ⟨by rfl, ?_⟩) (by assumption) ?_
  rotate_left
  · intro w hSw; (try dsimp only at hSw); go_simp; try with_reducible rfl
  simp only [Act.put, List.setIfInBounds_toArray, List.set_cons_zero, List.set_cons_succ, List.getElem_toArray, List.getElem_cons_zero, List.getElem_cons_succ]
  refine anyL_take (k := 12) (i := 4) (v := ?_) rfl (by kernel_rfl) (by kernel_rfl) (by kernel_rfl) (by kernel_rfl) (fun _ _ _ h => h) (Or.inl ⟨by rfl, ?_⟩) (by assumption) ?_
  rotate_left
  · intro w hSw; (try dsimp only at hSw); go_simp; try with_reducible rfl
  simp only [Act.put, List.setIfInBounds_toArray, List.set_cons_zero, List.set_cons_succ, List.getElem_toArray, List.getElem_cons_zero, List.getElem_cons_succ]
  refine anyL_take (k := 12) (i := 5) (v := ?_) rfl (by kernel_rfl) (by kernel_rfl) (by kernel_rfl) (by kernel_rfl) (fun _ _ _ h => h) (Or.inl ⟨by rfl, ?_⟩) (by assumption) ?_
  rotate_left
  · intro w hSw; (try dsimp only at hSw); go_simp; try with_reducible rfl
  simp only [Act.put, List.setIfInBounds_toArray, List.set_cons_zero, List.set_cons_succ, List.getElem_toArray, List.getElem_cons_zero, List.getElem_cons_succ]
  refine anyL_ready (rs := [6]) (by kernel_rfl) (by simp) ?_
  refine AllL.cons rfl (fun K hK => ?_) ?_
  rotate_left
  · exact AllL.nil
  go_simp
  refine (HC _ (KK.out.on (bl_drew w3))).mono ?_
  rintro e w4 ⟨z, rfl, k4, hz⟩
  have k34 : Bl w3 w4 := (bl_drew w3).on k4
  have H9 := HSS w4 k34
  have HZ := Lib.hid hz
  obtain ⟨cur, hcur, hsz, hTS⟩ := (T3.on k34).tab.set k (by rw [HN.out]; exact hk) z
  have HE := Lib.hid (And.intro k34 hTS)
  clear hz HC k4 HSS hTS
  go_wp2_with fail
  refine hK.out _ _ (H9) (fun hHeld => ?_)
  clear hK K
  try simp only [Act.put, List.setIfInBounds_toArray, List.set_cons_zero, List.set_cons_succ, List.getElem_toArray, List.getElem_cons_zero, List.getElem_cons_succ]
  refine anyL_take (k := 12) (i := 7) (v := ?_) rfl (by kernel_rfl) (by kernel_rfl) (by kernel_rfl) (by kernel_rfl) (fun _ _ _ h => h) (Or.inl ⟨by rfl, ?_⟩) (by assumption) ?_
  rotate_left
  · intro w hSw; (try dsimp only at hSw); go_simp; try with_reducible rfl
  simp only [Act.put, List.setIfInBounds_toArray, List.set_cons_zero, List.set_cons_succ, List.getElem_toArray, List.getElem_cons_zero, List.getElem_cons_succ]
  refine anyL_ready (rs := [8]) (by kernel_rfl) (by simp) ?_
  refine AllL.last rfl (by kernel_rfl) (fun K hK => ?_) ?_
  rotate_left
  · exact AllL.nil
  refine step_store_at (by rfl) 43 _ _ (by rfl) g (k * 12) z.arr (by rfl) (by rfl) 43 cur hcur infoTy hsz z.one ?_
  refine hK.out _ _ ?_
  clear hK K
  try simp only [Act.put, List.setIfInBounds_toArray, List.set_cons_zero, List.set_cons_succ, List.getElem_toArray, List.getElem_cons_zero, List.getElem_cons_succ]
  refine anyL_done (by kernel_rfl) ?_ _
  clear H9 hHeld T3 hc3 XB hcur hsz
  go_wp2_with fail
  go_ret
  refine ⟨rfl, ?_⟩
  obtain ⟨k34, hTS⟩ := HE.out
  have hs2 := KK.out.size
  have F4 : Fx [g] w4 (w4.setRow g (cur.toList.take (k * 12) ++ z.arr.toList ++ cur.toList.drop (k * 12 + 12)).toArray) := ⟨rfl, rfl, rfl, by simp, fun j _ hm => setRow_other _ _ _ _ (fun e => hm (by rw [e]; exact List.mem_cons_self))⟩
  have F5 := (Fx.of [g] (KK.out.on k34)).on F4 (fun j hj => .inl hj)
  have hgM : ∀ j ∈ [g], j ∈ M := fun j hj => by
    obtain rfl := List.mem_singleton.1 hj
    exact HTK.out.mg
  refine ⟨F5, z, hTS, by rw [List.length_set, List.length_set]; exact HTK.out.len, fun i x1 c1 hx hc => ?_, fun d hd => ?_, HTK.out.mt, HTK.out.mg, fun j hj => Nat.lt_of_lt_of_le (HTK.out.lt j hj) F5.size⟩
  · by_cases hi : k = i
    · subst hi
      have hk1 : k < L.length := by rw [HN.out]; exact hk
      rw [List.getElem?_set_self hk1] at hx
      rw [List.getElem?_set_self (by rw [HTK.out.len]; exact hk1)] at hc
      injection hx with hx
      injection hc with hc
      subst hx hc
      have hzM : HasM w4 M z c := HasM.of HZ.out (fun j hj => .inl (by
        have := HTK.out.lt j hj
        show j < w3.heap.size
        omega))
      exact hzM.next ⟨F4.os, F4.tape, F4.output, F4.size, fun j hj hm => F4.block j hj (fun h => hm (hgM j h))⟩ (fun j hj => .inl hj)
    · rw [List.getElem?_set_ne hi] at hx hc
      exact (HTK.out.has i x1 c1 hx hc).next ⟨F5.os, F5.tape, F5.output, F5.size, fun j hj hm => F5.block j hj (fun h => hm (hgM j h))⟩ (fun j hj => .inl hj)
  · rcases List.mem_or_eq_of_mem_set hd with h | h
    · exact HTK.out.ok d h
    · rw [h]; exact HO.out
end Go.Proofs.Ytepfknfadpkigaa
