/- The document's table of layer 11: New. -/
import Derived.Test.YtepfknfadpkigaaTyQ
namespace Go.Proofs.Ytepfknfadpkigaa
open Go.RowKit
set_option maxHeartbeats 1000000
set_option maxRecDepth 100000
set_option linter.unusedVariables false
set_option linter.unusedSimpArgs false

def D0 : List TyV := [⟨0, ⟨#[]⟩, ⟨#[]⟩, 0, 0, 0, 0, .no, .no, .no, .no, 0⟩, ⟨1, ⟨#[]⟩, ⟨#[73, 78, 84, 69, 71, 69, 82]⟩, 0, 0, 0, 0, .no, .no, .no, .no, 0⟩, ⟨2, ⟨#[]⟩, ⟨#[67, 65, 82, 68, 73, 78, 65, 76]⟩, 0, 0, 0, 0, .no, .no, .no, .no, 0⟩, ⟨3, ⟨#[]⟩, ⟨#[66, 79, 79, 76, 69, 65, 78]⟩, 0, 0, 0, 0, .no, .no, .no, .no, 0⟩, ⟨4, ⟨#[]⟩, ⟨#[67, 72, 65, 82]⟩, 0, 0, 0, 0, .no, .no, .no, .no, 0⟩, ⟨5, ⟨#[]⟩, ⟨#[]⟩, 0, 0, 0, 0, .no, .no, .no, .no, 0⟩, ⟨6, ⟨#[]⟩, ⟨#[]⟩, 0, 0, 0, 0, .no, .no, .no, .no, 0⟩, ⟨7, ⟨#[]⟩, ⟨#[]⟩, 0, 0, 0, 0, .no, .no, .no, .no, 0⟩, ⟨9, ⟨#[]⟩, ⟨#[]⟩, 0, 0, 0, 0, .no, .no, .no, .no, 0⟩, ⟨13, ⟨#[]⟩, ⟨#[66, 73, 84, 83, 69, 84]⟩, 0, 0, 0, 0, .no, .no, .no, .no, 0⟩]
theorem d0_at (k : Nat) (x : TyV) (h : D0[k]? = some x) : (#[.int .u8 0, .int .u8 1, .int .u8 2, .int .u8 3, .int .u8 4, .int .u8 5, .int .u8 6, .int .u8 7, .int .u8 9, .int .u8 13] : Array Value)[k]? = some (.int .u8 x.k) ∧ (#[.string ⟨#[]⟩, .string ⟨#[73, 78, 84, 69, 71, 69, 82]⟩, .string ⟨#[67, 65, 82, 68, 73, 78, 65, 76]⟩, .string ⟨#[66, 79, 79, 76, 69, 65, 78]⟩, .string ⟨#[67, 72, 65, 82]⟩, .string ⟨#[]⟩, .string ⟨#[]⟩, .string ⟨#[]⟩, .string ⟨#[]⟩, .string ⟨#[66, 73, 84, 83, 69, 84]⟩] : Array Value)[k]? = some (.string x.n) ∧ x = ⟨x.k, ⟨#[]⟩, x.n, 0, 0, 0, 0, .no, .no, .no, .no, 0⟩ := by
  have hk : k < 10 := (List.getElem?_eq_some_iff.1 h).1
  match k, hk with
  | 0, _ | 1, _ | 2, _ | 3, _ | 4, _ | 5, _ | 6, _ | 7, _ | 8, _ | 9, _ =>
    injection h with h
    subst h
    exact ⟨rfl, rfl, rfl⟩
theorem DTab.set {w : World} {t g cap : Nat} {L : List TyV} (h : DTab w t g cap L) (k : Nat) (hk : k < L.length) (y : TyV) : ∃ cur : Array Value, w.heap[g]? = some (.cells cur 43) ∧ k * 12 + 12 ≤ cur.size ∧ DTab (w.setRow g (cur.toList.take (k * 12) ++ y.arr.toList ++ cur.toList.drop (k * 12 + 12)).toArray) t g cap (L.set k y) := by
  rcases h.own.2 with ⟨e, _⟩ | ⟨g', c', cur, e1, e2, e3, e4, e5, e6, e7⟩
  · cases e
  · injection e1 with e1 e8 e9
    injection e1 with e1
    injection e1 with e1
    subst e1 e9
    have hm : (k + 1) * 12 ≤ L.length * 12 := Nat.mul_le_mul_right 12 hk
    have hc : L.length * 12 ≤ cap * 12 := Nat.mul_le_mul_right 12 e4
    have hs : cur.size = cap * 12 := e6
    refine ⟨cur, e3, by omega, ?_, ⟨?_, .inr ⟨g, cap, _, ?_, Nat.zero_le _, setRow_heap w g cur _ _ (0, 0) e3, ?_, e5, ?_, ?_⟩⟩, by rw [List.length_set]; exact h.n, h.ne, by simpa using h.t⟩
    · rw [setRow_other w g t _ h.ne, List.length_set]; exact h.c
    · rw [rowT_len]
    · rw [List.length_set]
    · rw [List.length_set]; exact e4
    · simp only [List.size_toArray, List.length_append, List.length_take, List.length_drop, Array.length_toList]
      show min (k * 12) cur.size + 12 + (cur.size - (k * 12 + 12)) = _
      omega
    · rw [List.length_set, List.toList_toArray, take_mid _ _ _ 12 _ rfl (by omega) (by simp; omega), e7, ← rowT_set L k y hk]
/-- The document's New under way. -/
structure Dn (w : World) (W k : Nat) (u : Sl) (wr : World) : Prop where
  b : Bl w wr
  t : Bx wr W 31 #[.slice u.p u.n u.c]
  kk : Bx wr (W + 1) 5 #[.int .u8 0, .int .u8 1, .int .u8 2, .int .u8 3, .int .u8 4, .int .u8 5, .int .u8 6, .int .u8 7, .int .u8 9, .int .u8 13]
  n : Bx wr (W + 2) 9 #[.string ⟨#[]⟩, .string ⟨#[73, 78, 84, 69, 71, 69, 82]⟩, .string ⟨#[67, 65, 82, 68, 73, 78, 65, 76]⟩, .string ⟨#[66, 79, 79, 76, 69, 65, 78]⟩, .string ⟨#[67, 72, 65, 82]⟩, .string ⟨#[]⟩, .string ⟨#[]⟩, .string ⟨#[]⟩, .string ⟨#[]⟩, .string ⟨#[66, 73, 84, 83, 69, 84]⟩]
  o : wr.ownsRow (W + 3) 43 12 (.slice u.p u.n u.c) k (rowT (D0.take k))
  s : W + 3 ≤ wr.heap.size
theorem own_low {w : World} {B B' : Nat} {e : TypeId} {st n : Nat} {v : Value} {xs : List Value} (h : w.ownsRow B e st v n xs) (hb : B' ≤ B) : w.ownsRow B' e st v n xs := by
  refine ⟨h.1, ?_⟩
  rcases h.2 with e1 | ⟨g, cap, cur, e1, e2, e3, e4⟩
  · exact .inl e1
  · exact .inr ⟨g, cap, cur, e1, Nat.le_trans hb e2, e3, e4⟩
theorem dn_next {w w4 : World} {W g' cap' k : Nat} {u : Sl} {x : TyV} (K4 : Bl w w4) (T4 : Bx w4 W 31 #[.slice u.p u.n u.c]) (A4 : Bx w4 (W + 1) 5 #[.int .u8 0, .int .u8 1, .int .u8 2, .int .u8 3, .int .u8 4, .int .u8 5, .int .u8 6, .int .u8 7, .int .u8 9, .int .u8 13]) (N4 : Bx w4 (W + 2) 9 #[.string ⟨#[]⟩, .string ⟨#[73, 78, 84, 69, 71, 69, 82]⟩, .string ⟨#[67, 65, 82, 68, 73, 78, 65, 76]⟩, .string ⟨#[66, 79, 79, 76, 69, 65, 78]⟩, .string ⟨#[67, 72, 65, 82]⟩, .string ⟨#[]⟩, .string ⟨#[]⟩, .string ⟨#[]⟩, .string ⟨#[]⟩, .string ⟨#[66, 73, 84, 83, 69, 84]⟩])
    (hown : w4.ownsRow (W + 3) 43 12 (.slice (some ⟨g', 0, none⟩) (k + 1) cap') (k + 1) (rowT (D0.take k) ++ [.int .u8 x.k, .string ⟨#[]⟩, .string x.n, .int .i64 0, .int .i64 0, .int .i64 0, .int .i64 0, .slice none 0 0, .slice none 0 0, .slice none 0 0, .slice none 0 0, .int .i64 0])) (hx : D0[k]? = some x) (hx2 : x = ⟨x.k, ⟨#[]⟩, x.n, 0, 0, 0, 0, .no, .no, .no, .no, 0⟩) (hs : W + 3 ≤ w4.heap.size) (hW : w.heap.size ≤ W) :
    Dn w W (k + 1) ⟨some ⟨g', 0, none⟩, k + 1, cap'⟩ (w4.setCell ⟨W, 0, none⟩ (.slice (some ⟨g', 0, none⟩) (k + 1) cap')) := by
  have hg := own_base hown (j := g') rfl
  refine ⟨K4.setCell (by exact hW) _, T4.cell 0 _, A4.off1 (by omega) _ _, N4.off1 (by omega) _ _, ?_, by simpa using hs⟩
  have hk : k < D0.length := (List.getElem?_eq_some_iff.1 hx).1
  have e : D0.take (k + 1) = D0.take k ++ [x] := by
    rw [List.take_succ_eq_append_getElem hk]
    rw [List.getElem?_eq_getElem hk] at hx
    injection hx with hx
    rw [hx]
  have e2 : rowT (D0.take k ++ [x]) = rowT (D0.take k) ++ [.int .u8 x.k, .string ⟨#[]⟩, .string x.n, .int .i64 0, .int .i64 0, .int .i64 0, .int .i64 0, .slice none 0 0, .slice none 0 0, .slice none 0 0, .slice none 0 0, .int .i64 0] := by
    unfold rowT
    rw [List.flatMap_append, hx2]; rfl
  rw [e, e2]
  refine own_on hown (fun j hj => ?_)
  simp only [Value.ownBlock, Option.some.injEq] at hj
  subst hj
  simp [World.setCell, Array.getElem?_modify, show ¬ W = g' by omega]
theorem dnew_any (w : World) : Calls Try.prog 27 #[] w fun e w' => e = .returned (.pointer (some ⟨w.heap.size, 0, none⟩)) ∧ Bl w w' ∧ w.heap.size + 3 ≤ w'.heap.size ∧ ∃ g, w.heap.size + 3 ≤ g ∧ ∃ cap, DTab w' w.heap.size g cap L0 := by
  obtain ⟨i0, hi, hz0, hz1, hz2⟩ := info_row infoT12
  go_enter Try.func27, Try.ntmps27
  go_wp2_with fail
  have hs3 : (((w.alloc (.cells #[.slice none 0 0] 31)).alloc (.cells #[.int .u8 0, .int .u8 1, .int .u8 2, .int .u8 3, .int .u8 4, .int .u8 5, .int .u8 6, .int .u8 7, .int .u8 9, .int .u8 13] 5)).alloc (.cells #[.string ⟨#[]⟩, .string ⟨#[73, 78, 84, 69, 71, 69, 82]⟩, .string ⟨#[67, 65, 82, 68, 73, 78, 65, 76]⟩, .string ⟨#[66, 79, 79, 76, 69, 65, 78]⟩, .string ⟨#[67, 72, 65, 82]⟩, .string ⟨#[]⟩, .string ⟨#[]⟩, .string ⟨#[]⟩, .string ⟨#[]⟩, .string ⟨#[66, 73, 84, 83, 69, 84]⟩] 9)).heap.size = w.heap.size + 3 := by simp
  have LP0 : Dn w w.heap.size 0 .no (((w.alloc (.cells #[.slice none 0 0] 31)).alloc (.cells #[.int .u8 0, .int .u8 1, .int .u8 2, .int .u8 3, .int .u8 4, .int .u8 5, .int .u8 6, .int .u8 7, .int .u8 9, .int .u8 13] 5)).alloc (.cells #[.string ⟨#[]⟩, .string ⟨#[73, 78, 84, 69, 71, 69, 82]⟩, .string ⟨#[67, 65, 82, 68, 73, 78, 65, 76]⟩, .string ⟨#[66, 79, 79, 76, 69, 65, 78]⟩, .string ⟨#[67, 72, 65, 82]⟩, .string ⟨#[]⟩, .string ⟨#[]⟩, .string ⟨#[]⟩, .string ⟨#[]⟩, .string ⟨#[66, 73, 84, 83, 69, 84]⟩] 9)) := by
    refine ⟨((bl_new _ _).on (bl_new _ _)).on (bl_new _ _), ((Bx.new w 31 #[.slice none 0 0]).on (bl_new _ _)).on (bl_new _ _), ?_, ?_, ⟨rfl, .inl ⟨rfl, rfl⟩⟩, by rw [hs3]; exact Nat.le_refl _⟩
    · have := (Bx.new (w.alloc (.cells #[.slice none 0 0] 31)) 5 #[.int .u8 0, .int .u8 1, .int .u8 2, .int .u8 3, .int .u8 4, .int .u8 5, .int .u8 6, .int .u8 7, .int .u8 9, .int .u8 13]).on (bl_new _ (.cells #[.string ⟨#[]⟩, .string ⟨#[73, 78, 84, 69, 71, 69, 82]⟩, .string ⟨#[67, 65, 82, 68, 73, 78, 65, 76]⟩, .string ⟨#[66, 79, 79, 76, 69, 65, 78]⟩, .string ⟨#[67, 72, 65, 82]⟩, .string ⟨#[]⟩, .string ⟨#[]⟩, .string ⟨#[]⟩, .string ⟨#[]⟩, .string ⟨#[66, 73, 84, 83, 69, 84]⟩] 9))
      simpa using this
    · have := Bx.new ((w.alloc (.cells #[.slice none 0 0] 31)).alloc (.cells #[.int .u8 0, .int .u8 1, .int .u8 2, .int .u8 3, .int .u8 4, .int .u8 5, .int .u8 6, .int .u8 7, .int .u8 9, .int .u8 13] 5)) 9 #[.string ⟨#[]⟩, .string ⟨#[73, 78, 84, 69, 71, 69, 82]⟩, .string ⟨#[67, 65, 82, 68, 73, 78, 65, 76]⟩, .string ⟨#[66, 79, 79, 76, 69, 65, 78]⟩, .string ⟨#[67, 72, 65, 82]⟩, .string ⟨#[]⟩, .string ⟨#[]⟩, .string ⟨#[]⟩, .string ⟨#[]⟩, .string ⟨#[66, 73, 84, 83, 69, 84]⟩]
      simpa using this
  have HL0 := Lib.hid LP0
  clear LP0 hs3
  obtain ⟨W, hW⟩ : ∃ W, w.heap.size = W := ⟨_, rfl⟩
  rw [hW] at HL0 ⊢
  go_loopw [4] (fun s wr => ∃ (k : Nat) (u : Sl), k ≤ 10 ∧ s = .int .i64 k ∧ Dn w W k u wr) (fun s _ => 10 - (intOf s).toNat)
  case atStart => exact ⟨0, .no, Nat.zero_le _, rfl, HL0.out⟩
  case round =>
    obtain ⟨k, u, hk, rfl, hLp⟩ := hrel
    have HLP := Lib.hid hLp
    clear hLp HL0
    by_cases hlt : k < 10
    · obtain ⟨x, hx⟩ : ∃ x, D0[k]? = some x := ⟨_, List.getElem?_eq_getElem (show k < D0.length from hlt)⟩
      obtain ⟨q1, q2, q3⟩ := d0_at k x hx
      have HX := Lib.hid (And.intro hx q3)
      have hOw := HLP.out.o
      have HSS : ∀ w', Bl wr w' → (w'.cell? ⟨W, 0, none⟩ = some (.slice u.p u.n u.c) ∧ w'.cell? ⟨W + 1, k, none⟩ = some (.int .u8 x.k) ∧ w'.cell? ⟨W + 2, k, none⟩ = some (.string x.n)) := fun w' z => ⟨by have := ((HLP.out.t.on z).at 0).1; simpa using this, by rw [((HLP.out.kk.on z).at k).1]; exact q1, by rw [((HLP.out.n.on z).at k).1]; exact q2⟩
      clear hx q1 q2 q3
      go_upto_region 7 with fail
      refine region_l 18 (S := fun w' => w'.cell? ⟨W, 0, none⟩ = some (.slice u.p u.n u.c) ∧ w'.cell? ⟨W + 1, k, none⟩ = some (.int .u8 x.k) ∧ w'.cell? ⟨W + 2, k, none⟩ = some (.string x.n)) (by kernel_rfl) ?_ (fun hHeld => ?_)
      · exact HSS _ (bl_drew wr)
      refine anyL_take (k := 20) (i := 0) (v := ?_) rfl (by kernel_rfl) (by kernel_rfl) (by kernel_rfl) (by kernel_rfl) (fun _ _ _ h => h) (Or.inl ⟨by rfl, ?_⟩) (by assumption) ?_
      rotate_left
      · intro w hSw; (try dsimp only at hSw); go_simp; try with_reducible rfl
      simp only [Act.put, List.setIfInBounds_toArray, List.set_cons_zero, List.set_cons_succ, List.getElem_toArray, List.getElem_cons_zero, List.getElem_cons_succ]
      refine anyL_take (k := 20) (i := 1) (v := ?_) rfl (by kernel_rfl) (by kernel_rfl) (by kernel_rfl) (by kernel_rfl) (fun _ _ _ h => h) (Or.inl ⟨by rfl, ?_⟩) (by assumption) ?_
      rotate_left
      · intro w hSw; (try dsimp only at hSw); go_simp; try with_reducible rfl
      simp only [Act.put, List.setIfInBounds_toArray, List.set_cons_zero, List.set_cons_succ, List.getElem_toArray, List.getElem_cons_zero, List.getElem_cons_succ]
      refine anyL_take (k := 20) (i := 2) (v := ?_) rfl (by kernel_rfl) (by kernel_rfl) (by kernel_rfl) (by kernel_rfl) (fun _ _ _ h => h) (Or.inl ⟨by rfl, ?_⟩) (by assumption) ?_
      rotate_left
      · intro w hSw; (try dsimp only at hSw); go_simp; try with_reducible rfl
      simp only [Act.put, List.setIfInBounds_toArray, List.set_cons_zero, List.set_cons_succ, List.getElem_toArray, List.getElem_cons_zero, List.getElem_cons_succ]
      refine anyL_take (k := 20) (i := 3) (v := ?_) rfl (by kernel_rfl) (by kernel_rfl) (by kernel_rfl) (by kernel_rfl) (fun _ _ _ h => h) (Or.inl ⟨by rfl, ?_⟩) (by assumption) ?_
      rotate_left
      · intro w hSw; (try dsimp only at hSw); go_simp; try with_reducible rfl
      simp only [Act.put, List.setIfInBounds_toArray, List.set_cons_zero, List.set_cons_succ, List.getElem_toArray, List.getElem_cons_zero, List.getElem_cons_succ]
      refine anyL_take (k := 20) (i := 4) (v := ?_) rfl (by kernel_rfl) (by kernel_rfl) (by kernel_rfl) (by kernel_rfl) (fun _ _ _ h => h) (Or.inl ⟨by rfl, ?_⟩) (by assumption) ?_
      rotate_left
      · intro w hSw; (try dsimp only at hSw); go_simp; try with_reducible rfl
      simp only [Act.put, List.setIfInBounds_toArray, List.set_cons_zero, List.set_cons_succ, List.getElem_toArray, List.getElem_cons_zero, List.getElem_cons_succ]
      refine anyL_take (k := 20) (i := 5) (v := ?_) rfl (by kernel_rfl) (by kernel_rfl) (by kernel_rfl) (by kernel_rfl) (fun _ _ _ h => h) (Or.inl ⟨by rfl, ?_⟩) (by assumption) ?_
      rotate_left
      · intro w hSw; (try dsimp only at hSw); go_simp; try with_reducible rfl
      simp only [Act.put, List.setIfInBounds_toArray, List.set_cons_zero, List.set_cons_succ, List.getElem_toArray, List.getElem_cons_zero, List.getElem_cons_succ]
      refine anyL_take (k := 20) (i := 6) (v := ?_) rfl (by kernel_rfl) (by kernel_rfl) (by kernel_rfl) (by kernel_rfl) (fun _ _ _ h => h) (Or.inl ⟨by rfl, ?_⟩) (by assumption) ?_
      rotate_left
      · intro w hSw; (try dsimp only at hSw); go_simp; try with_reducible rfl
      simp only [Act.put, List.setIfInBounds_toArray, List.set_cons_zero, List.set_cons_succ, List.getElem_toArray, List.getElem_cons_zero, List.getElem_cons_succ]
      refine anyL_take (k := 20) (i := 7) (v := ?_) rfl (by kernel_rfl) (by kernel_rfl) (by kernel_rfl) (by kernel_rfl) (fun _ _ _ h => h) (Or.inl ⟨by rfl, ?_⟩) (by assumption) ?_
      rotate_left
      · intro w hSw; (try dsimp only at hSw); go_simp; try with_reducible rfl
      simp only [Act.put, List.setIfInBounds_toArray, List.set_cons_zero, List.set_cons_succ, List.getElem_toArray, List.getElem_cons_zero, List.getElem_cons_succ]
      refine anyL_take (k := 20) (i := 8) (v := ?_) rfl (by kernel_rfl) (by kernel_rfl) (by kernel_rfl) (by kernel_rfl) (fun _ _ _ h => h) (Or.inl ⟨by rfl, ?_⟩) (by assumption) ?_
      rotate_left
      · intro w hSw; (try dsimp only at hSw); go_simp; try with_reducible rfl
      simp only [Act.put, List.setIfInBounds_toArray, List.set_cons_zero, List.set_cons_succ, List.getElem_toArray, List.getElem_cons_zero, List.getElem_cons_succ]
      refine anyL_take (k := 20) (i := 9) (v := ?_) rfl (by kernel_rfl) (by kernel_rfl) (by kernel_rfl) (by kernel_rfl) (fun _ _ _ h => h) (Or.inl ⟨by rfl, ?_⟩) (by assumption) ?_
      rotate_left
      · intro w hSw; (try dsimp only at hSw); go_simp; try with_reducible rfl
      simp only [Act.put, List.setIfInBounds_toArray, List.set_cons_zero, List.set_cons_succ, List.getElem_toArray, List.getElem_cons_zero, List.getElem_cons_succ]
      refine anyL_take (k := 20) (i := 10) (v := ?_) rfl (by kernel_rfl) (by kernel_rfl) (by kernel_rfl) (by kernel_rfl) (fun _ _ _ h => h) (Or.inl ⟨by rfl, ?_⟩) (by assumption) ?_
      rotate_left
      · intro w hSw; (try dsimp only at hSw); go_simp; try with_reducible rfl
      simp only [Act.put, List.setIfInBounds_toArray, List.set_cons_zero, List.set_cons_succ, List.getElem_toArray, List.getElem_cons_zero, List.getElem_cons_succ]
      refine anyL_take (k := 20) (i := 11) (v := ?_) rfl (by kernel_rfl) (by kernel_rfl) (by kernel_rfl) (by kernel_rfl) (fun _ _ _ h => h) (Or.inl ⟨by rfl, ?_⟩) (by assumption) ?_
      rotate_left
      · intro w hSw; (try dsimp only at hSw); go_simp; try with_reducible rfl
      simp only [Act.put, List.setIfInBounds_toArray, List.set_cons_zero, List.set_cons_succ, List.getElem_toArray, List.getElem_cons_zero, List.getElem_cons_succ]
      refine anyL_take (k := 20) (i := 12) (v := ?_) rfl (by kernel_rfl) (by kernel_rfl) (by kernel_rfl) (by kernel_rfl) (fun _ _ _ h => h) (Or.inl ⟨by rfl, ?_⟩) (by assumption) ?_
      rotate_left
      · intro w hSw; (try dsimp only at hSw); go_simp; try with_reducible rfl
      simp only [Act.put, List.setIfInBounds_toArray, List.set_cons_zero, List.set_cons_succ, List.getElem_toArray, List.getElem_cons_zero, List.getElem_cons_succ]
      refine anyL_take (k := 20) (i := 13) (v := ?_) rfl (by kernel_rfl) (by kernel_rfl) (by kernel_rfl) (by kernel_rfl) (fun _ _ _ h => h) (Or.inl ⟨by rfl, ?_⟩) (by assumption) ?_
      rotate_left
      · intro w hSw; (try dsimp only at hSw); go_simp; try with_reducible rfl
      simp only [Act.put, List.setIfInBounds_toArray, List.set_cons_zero, List.set_cons_succ, List.getElem_toArray, List.getElem_cons_zero, List.getElem_cons_succ]
      refine anyL_ready (rs := [14]) (by kernel_rfl) (by simp) ?_
      refine AllL.cons rfl (fun K hK => ?_) ?_
      rotate_left
      · exact AllL.nil
      go_simp
      have KB : Bl wr ((wr.alloc (.cells #[.int .u8 x.k, .string ⟨#[]⟩, .string x.n, .int .i64 0, .int .i64 0, .int .i64 0, .int .i64 0, .slice none 0 0, .slice none 0 0, .slice none 0 0, .slice none 0 0, .int .i64 0] 43)).drew) := (bl_new _ _).on (bl_drew _)
      refine hK.out _ _ (HSS _ KB) (fun hHeld => ?_)
      clear hK K
      try simp only [Act.put, List.setIfInBounds_toArray, List.set_cons_zero, List.set_cons_succ, List.getElem_toArray, List.getElem_cons_zero, List.getElem_cons_succ]
      refine anyL_ready (rs := [15]) (by kernel_rfl) (by simp) ?_
      refine AllL.cons rfl (fun K hK => ?_) ?_
      rotate_left
      · exact AllL.nil
      refine step_append_lies _ (by rfl) _ _ 29 (by rfl) (W + 3) 43 i0 _ 12 176 Try.underlying29 hi hz0 hz1 hz2 (by rfl) (by omega) (.slice u.p u.n u.c) k (rowT (D0.take k)) (by rfl) (own_bl hOw KB) ⟨wr.heap.size, 0, none⟩ 1 1 (#[.int .u8 x.k, .string ⟨#[]⟩, .string x.n, .int .i64 0, .int .i64 0, .int .i64 0, .int .i64 0, .slice none 0 0, .slice none 0 0, .slice none 0 0, .slice none 0 0, .int .i64 0] : Array Value).toList (by rfl) (by rfl) (fun j v hv => (by rw [Addr.add_mid, Nat.zero_add, (((Bx.new wr 43 #[.int .u8 x.k, .string ⟨#[]⟩, .string x.n, .int .i64 0, .int .i64 0, .int .i64 0, .int .i64 0, .slice none 0 0, .slice none 0 0, .slice none 0 0, .slice none 0 0, .int .i64 0]).on (bl_drew _)).at j).1]; simpa using hv)) (fun v hv => (by simp at hv; rcases hv with rfl | rfl | rfl | rfl | rfl | rfl | rfl | rfl | rfl | rfl | rfl | rfl <;> rfl)) (by omega) (by unfold maxLen; omega) (by omega) (by have := KB.size; have := HLP.out.s; omega) (wr.heap.size + 1) (by simp [World.drew]) ?_
      intro g' cap' w4 hown hgrow hat hlt5
      have hub := fun j hj => own_base hOw (j := j) hj
      have hsz := HLP.out.s
      have hpr : ∀ j, j < W + 3 → w4.heap[j]? = wr.heap[j]? := fun j hj => (hgrow.block j (by have := KB.size; omega) (fun e => by have := hub j e.symm; omega)).trans (KB.block j (by omega))
      have T4 : Bx w4 W 31 #[.slice u.p u.n u.c] := (hpr W (by omega)).trans HLP.out.t
      have A4 : Bx w4 (W + 1) 5 #[.int .u8 0, .int .u8 1, .int .u8 2, .int .u8 3, .int .u8 4, .int .u8 5, .int .u8 6, .int .u8 7, .int .u8 9, .int .u8 13] := (hpr (W + 1) (by omega)).trans HLP.out.kk
      have N4 : Bx w4 (W + 2) 9 #[.string ⟨#[]⟩, .string ⟨#[73, 78, 84, 69, 71, 69, 82]⟩, .string ⟨#[67, 65, 82, 68, 73, 78, 65, 76]⟩, .string ⟨#[66, 79, 79, 76, 69, 65, 78]⟩, .string ⟨#[67, 72, 65, 82]⟩, .string ⟨#[]⟩, .string ⟨#[]⟩, .string ⟨#[]⟩, .string ⟨#[]⟩, .string ⟨#[66, 73, 84, 83, 69, 84]⟩] := (hpr (W + 2) (by omega)).trans HLP.out.n
      have K4 : Bl w w4 := (HLP.out.b.on KB).grown hgrow (by have := KB.size; have := HLP.out.b.size; omega) (fun j hj => by have := hub j hj; omega)
      obtain ⟨q1, q2, q3⟩ := d0_at k x HX.out.1
      have H9 : w4.cell? ⟨W, 0, none⟩ = some (.slice u.p u.n u.c) ∧ w4.cell? ⟨W + 1, k, none⟩ = some (.int .u8 x.k) ∧ w4.cell? ⟨W + 2, k, none⟩ = some (.string x.n) := ⟨by have := (T4.at 0).1; simpa using this, by rw [(A4.at k).1]; exact q1, by rw [(N4.at k).1]; exact q2⟩
      have f9 := (T4.at 0).2
      have hs4 : W + 3 ≤ w4.heap.size := by have := KB.size; have := hgrow.size; omega
      have HE := Lib.hid (dn_next (u := u) K4 T4 A4 N4 hown HX.out.1 HX.out.2 hs4 (Nat.le_of_eq hW))
      clear hown hgrow hat hlt5 hub hpr T4 A4 N4 K4 KB HSS hOw q1 q2 q3 hsz hs4
      refine hK.out _ _ (H9) (fun hHeld => ?_)
      clear hK K
      try simp only [Act.put, List.setIfInBounds_toArray, List.set_cons_zero, List.set_cons_succ, List.getElem_toArray, List.getElem_cons_zero, List.getElem_cons_succ]
      refine anyL_take (k := 20) (i := 16) (v := ?_) rfl (by kernel_rfl) (by kernel_rfl) (by kernel_rfl) (by kernel_rfl) (fun _ _ _ h => h) (Or.inl ⟨by rfl, ?_⟩) (by assumption) ?_
      rotate_left
      · intro w hSw; (try dsimp only at hSw); go_simp; try with_reducible rfl
      simp only [Act.put, List.setIfInBounds_toArray, List.set_cons_zero, List.set_cons_succ, List.getElem_toArray, List.getElem_cons_zero, List.getElem_cons_succ]
      refine anyL_take (k := 20) (i := 17) (v := ?_) rfl (by kernel_rfl) (by kernel_rfl) (by kernel_rfl) (by kernel_rfl) (fun _ _ _ h => h) (Or.inl ⟨by rfl, ?_⟩) (by assumption) ?_
      rotate_left
      · intro w hSw; (try dsimp only at hSw); go_simp; try with_reducible rfl
      simp only [Act.put, List.setIfInBounds_toArray, List.set_cons_zero, List.set_cons_succ, List.getElem_toArray, List.getElem_cons_zero, List.getElem_cons_succ]
      refine anyL_ready (rs := [18]) (by kernel_rfl) (by simp) ?_
      refine AllL.last rfl (by kernel_rfl) (fun K hK => ?_) ?_
      rotate_left
      · exact AllL.nil
      go_simp
      refine hK.out _ _ ?_
      clear hK K
      try simp only [Act.put, List.setIfInBounds_toArray, List.set_cons_zero, List.set_cons_succ, List.getElem_toArray, List.getElem_cons_zero, List.getElem_cons_succ]
      refine anyL_done (by kernel_rfl) ?_ _
      clear H9 f9 hHeld HLP HX
      go_wp2_with fail
      go_roundw
      case rel => exact ⟨k + 1, _, by omega, by simp, HE.out⟩
      case measure => simp [intOf]; omega
    · obtain rfl : k = 10 := by omega
      obtain ⟨g, cap, hu, hg3, hlt3, DT0⟩ : ∃ g cap, u = ⟨some ⟨g, 0, none⟩, 10, cap⟩ ∧ W + 3 ≤ g ∧ g < wr.heap.size ∧ DTab wr W g cap D0 := by
        obtain ⟨up, un, uc⟩ := u
        have ho := HLP.out.o
        rcases ho.2 with ⟨e1, e2⟩ | ⟨g, cap, cur, e1, e2, e3, e4⟩
        · cases e2
        · have e0 := e1
          injection e1 with e1 e5 e6
          simp only at e1 e5 e6
          subst e1 e5 e6
          have hs := HLP.out.s
          have hgs : g < wr.heap.size := (Array.getElem?_eq_some_iff.1 e3).1
          exact ⟨g, _, rfl, e2, hgs, ⟨HLP.out.t, own_low ho (Nat.zero_le _), by decide, by omega, by omega⟩⟩
      subst hu
      have KW := HLP.out.b
      have hsz := HLP.out.s
      clear HLP
      have hc := DT0.c0
      have hcA : ∀ o, (wr.alloc o).cell? ⟨W, 0, none⟩ = some (.slice (some ⟨g, 0, none⟩) 10 cap) := fun o => ((bl_new wr o).cell (p := ⟨W, 0, none⟩) DT0.t.1).trans hc
      have HR := Lib.hid (DT0.row.get (i := 8) (x := ⟨9, ⟨#[]⟩, ⟨#[]⟩, 0, 0, 0, 0, .no, .no, .no, .no, 0⟩) rfl)
      go_upto_region 11 with (first | (refine wpList_load_mid rfl 43 _ rfl g 96 rfl [.int .u8 9, .string ⟨#[]⟩, .string ⟨#[]⟩, .int .i64 0, .int .i64 0, .int .i64 0, .int .i64 0, .slice none 0 0, .slice none 0 0, .slice none 0 0, .slice none 0 0, .int .i64 0] _ HR.out Try.underlying43 rfl infoTy ?_) | fail)
      obtain ⟨w5, hw5⟩ : ∃ w5, wr.alloc (.cells #[.int .u8 9, .string ⟨#[]⟩, .string ⟨#[]⟩, .int .i64 2, .int .i64 0, .int .i64 0, .int .i64 15, .slice none 0 0, .slice none 0 0, .slice none 0 0, .slice none 0 0, .int .i64 0] 43) = w5 := ⟨_, rfl⟩
      rw [hw5]
      have K5 : Bl wr w5 := by rw [← hw5]; exact bl_new _ _
      have X5 : Bx w5 wr.heap.size 43 #[.int .u8 9, .string ⟨#[]⟩, .string ⟨#[]⟩, .int .i64 2, .int .i64 0, .int .i64 0, .int .i64 15, .slice none 0 0, .slice none 0 0, .slice none 0 0, .slice none 0 0, .int .i64 0] := by rw [← hw5]; exact Bx.new _ _ _
      have T5 := DT0.on K5
      obtain ⟨B, hB⟩ : ∃ B, wr.heap.size = B := ⟨_, rfl⟩
      rw [hB] at X5 ⊢
      have HSS : ∀ w', Bl w5 w' → (w'.cell? ⟨W, 0, none⟩ = some (.slice (some ⟨g, 0, none⟩) 10 cap) ∧ (w'.cell? ⟨B, 0, none⟩ = some (.int .u8 9) ∧ w'.cell? ⟨B, 1, none⟩ = some (.string ⟨#[]⟩) ∧ w'.cell? ⟨B, 2, none⟩ = some (.string ⟨#[]⟩) ∧ w'.cell? ⟨B, 3, none⟩ = some (.int .i64 2) ∧ w'.cell? ⟨B, 4, none⟩ = some (.int .i64 0) ∧ w'.cell? ⟨B, 5, none⟩ = some (.int .i64 0) ∧ w'.cell? ⟨B, 6, none⟩ = some (.int .i64 15) ∧ w'.cell? ⟨B, 7, none⟩ = some (.slice none 0 0) ∧ w'.cell? ⟨B, 8, none⟩ = some (.slice none 0 0) ∧ w'.cell? ⟨B, 9, none⟩ = some (.slice none 0 0) ∧ w'.cell? ⟨B, 10, none⟩ = some (.slice none 0 0) ∧ w'.cell? ⟨B, 11, none⟩ = some (.int .i64 0))) := fun w' z => by
        have X := X5.on z
        exact ⟨(T5.on z).c0, (X.at 0).1, (X.at 1).1, (X.at 2).1, (X.at 3).1, (X.at 4).1, (X.at 5).1, (X.at 6).1, (X.at 7).1, (X.at 8).1, (X.at 9).1, (X.at 10).1, (X.at 11).1⟩
      obtain ⟨cur, hcur, hcz, hTS⟩ := (T5.on (bl_drew w5)).set 8 (by decide) (⟨9, ⟨#[]⟩, ⟨#[]⟩, 2, 0, 0, 15, .no, .no, .no, .no, 0⟩)
      have HE := Lib.hid (And.intro K5 (And.intro hTS (And.intro KW (And.intro hsz hg3))))
      clear hw5 K5 X5 T5 hTS DT0 hc hcA HR KW hsz
      refine region_l 6 (S := fun w' => w'.cell? ⟨W, 0, none⟩ = some (.slice (some ⟨g, 0, none⟩) 10 cap) ∧ (w'.cell? ⟨B, 0, none⟩ = some (.int .u8 9) ∧ w'.cell? ⟨B, 1, none⟩ = some (.string ⟨#[]⟩) ∧ w'.cell? ⟨B, 2, none⟩ = some (.string ⟨#[]⟩) ∧ w'.cell? ⟨B, 3, none⟩ = some (.int .i64 2) ∧ w'.cell? ⟨B, 4, none⟩ = some (.int .i64 0) ∧ w'.cell? ⟨B, 5, none⟩ = some (.int .i64 0) ∧ w'.cell? ⟨B, 6, none⟩ = some (.int .i64 15) ∧ w'.cell? ⟨B, 7, none⟩ = some (.slice none 0 0) ∧ w'.cell? ⟨B, 8, none⟩ = some (.slice none 0 0) ∧ w'.cell? ⟨B, 9, none⟩ = some (.slice none 0 0) ∧ w'.cell? ⟨B, 10, none⟩ = some (.slice none 0 0) ∧ w'.cell? ⟨B, 11, none⟩ = some (.int .i64 0))) (by kernel_rfl) ?_ (fun hHeld => ?_)
      · exact HSS _ (bl_drew w5)
      refine anyL_take (k := 12) (i := 0) (v := ?_) rfl (by kernel_rfl) (by kernel_rfl) (by kernel_rfl) (by kernel_rfl) (fun _ _ _ h => h) (Or.inl ⟨by rfl, ?_⟩) (by assumption) ?_
      rotate_left
      · intro w hSw; (try dsimp only at hSw); go_simp; try with_reducible rfl
      simp only [Act.put, List.setIfInBounds_toArray, List.set_cons_zero, List.set_cons_succ, List.getElem_toArray, List.getElem_cons_zero, List.getElem_cons_succ]
      refine anyL_take (k := 12) (i := 1) (v := ?_) rfl (by kernel_rfl) (by kernel_rfl) (by kernel_rfl) (by kernel_rfl) (fun _ _ _ h => h) (Or.inl ⟨by rfl, ?_⟩) (by assumption) ?_
      rotate_left
      · intro w hSw; (try dsimp only at hSw); go_simp; try with_reducible rfl
      simp only [Act.put, List.setIfInBounds_toArray, List.set_cons_zero, List.set_cons_succ, List.getElem_toArray, List.getElem_cons_zero, List.getElem_cons_succ]
      refine anyL_take (k := 12) (i := 2) (v := ?_) rfl (by kernel_rfl) (by kernel_rfl) (by kernel_rfl) (by kernel_rfl) (fun _ _ _ h => h) (Or.inl ⟨by rfl, ?_⟩) (by assumption) ?_
      rotate_left
      · intro w hSw; (try dsimp only at hSw); go_simp; try with_reducible rfl
      simp only [Act.put, List.setIfInBounds_toArray, List.set_cons_zero, List.set_cons_succ, List.getElem_toArray, List.getElem_cons_zero, List.getElem_cons_succ]
      refine anyL_take (k := 12) (i := 3) (v := ?_) rfl (by kernel_rfl) (by kernel_rfl) (by kernel_rfl) (by kernel_rfl) (fun _ _ _ h => h) (Or.inl ⟨by rfl, ?_⟩) (by assumption) ?_
      rotate_left
      · intro w hSw; (try dsimp only at hSw); go_simp; try with_reducible rfl
      simp only [Act.put, List.setIfInBounds_toArray, List.set_cons_zero, List.set_cons_succ, List.getElem_toArray, List.getElem_cons_zero, List.getElem_cons_succ]
      refine anyL_take (k := 12) (i := 4) (v := ?_) rfl (by kernel_rfl) (by kernel_rfl) (by kernel_rfl) (by kernel_rfl) (fun _ _ _ h => h) (Or.inl ⟨by rfl, ?_⟩) (by assumption) ?_
      rotate_left
      · intro w hSw; (try dsimp only at hSw); go_simp; try with_reducible rfl
      simp only [Act.put, List.setIfInBounds_toArray, List.set_cons_zero, List.set_cons_succ, List.getElem_toArray, List.getElem_cons_zero, List.getElem_cons_succ]
      refine anyL_take (k := 12) (i := 5) (v := ?_) rfl (by kernel_rfl) (by kernel_rfl) (by kernel_rfl) (by kernel_rfl) (fun _ _ _ h => h) (Or.inl ⟨by rfl, ?_⟩) (by assumption) ?_
      rotate_left
      · intro w hSw; (try dsimp only at hSw); go_simp; try with_reducible rfl
      simp only [Act.put, List.setIfInBounds_toArray, List.set_cons_zero, List.set_cons_succ, List.getElem_toArray, List.getElem_cons_zero, List.getElem_cons_succ]
      refine anyL_ready (rs := [6]) (by kernel_rfl) (by simp) ?_
      refine AllL.last rfl (by kernel_rfl) (fun K hK => ?_) ?_
      rotate_left
      · exact AllL.nil
      refine step_store_at (by rfl) 43 _ _ (by rfl) g 96 #[.int .u8 9, .string ⟨#[]⟩, .string ⟨#[]⟩, .int .i64 2, .int .i64 0, .int .i64 0, .int .i64 15, .slice none 0 0, .slice none 0 0, .slice none 0 0, .slice none 0 0, .int .i64 0] (by rfl) (by rfl) 43 cur hcur infoTy hcz (by simp [Value.oneCell']) ?_
      refine hK.out _ _ ?_
      clear hK K
      try simp only [Act.put, List.setIfInBounds_toArray, List.set_cons_zero, List.set_cons_succ, List.getElem_toArray, List.getElem_cons_zero, List.getElem_cons_succ]
      refine anyL_done (by kernel_rfl) ?_ _
      clear hHeld HSS hcur hcz
      obtain ⟨w6, hw6⟩ : ∃ w6, w5.drew.setRow g (List.take 96 cur.toList ++ ([.int .u8 9, .string ⟨#[]⟩, .string ⟨#[]⟩, .int .i64 2, .int .i64 0, .int .i64 0, .int .i64 15, .slice none 0 0, .slice none 0 0, .slice none 0 0, .slice none 0 0, .int .i64 0] : List Value) ++ List.drop (96 + (#[.int .u8 9, .string ⟨#[]⟩, .string ⟨#[]⟩, .int .i64 2, .int .i64 0, .int .i64 0, .int .i64 15, .slice none 0 0, .slice none 0 0, .slice none 0 0, .slice none 0 0, .int .i64 0] : Array Value).size) cur.toList).toArray = w6 := ⟨_, rfl⟩
      rw [hw6]
      obtain ⟨K5, hTS, KW, hsz, hg3⟩ := HE.out
      have T6 : DTab w6 W g cap (D0.set 8 (⟨9, ⟨#[]⟩, ⟨#[]⟩, 2, 0, 0, 15, .no, .no, .no, .no, 0⟩)) := by rw [← hw6]; exact hTS
      have K6 : Bl w w6 := by rw [← hw6]; exact bl_row ((KW.on K5).on (bl_drew _)) (by omega) _
      have hs6 : W + 3 ≤ w6.heap.size := by rw [← hw6, setRow_size]; have := K5.size; show W + 3 ≤ w5.heap.size; omega
      have hc6 := T6.c0
      have hcA : ∀ o, (w6.alloc o).cell? ⟨W, 0, none⟩ = some (.slice (some ⟨g, 0, none⟩) 10 cap) := fun o => ((bl_new w6 o).cell (p := ⟨W, 0, none⟩) T6.t.1).trans hc6
      have HR := Lib.hid (T6.row.get (i := 9) (x := ⟨13, ⟨#[]⟩, ⟨#[66, 73, 84, 83, 69, 84]⟩, 0, 0, 0, 0, .no, .no, .no, .no, 0⟩) rfl)
      have H6 := Lib.hid (And.intro T6 (And.intro K6 hs6))
      clear HE hw6 K5 hTS KW hsz T6 K6 hs6 cur
      go_upto_region 14 with (first | (refine wpList_load_mid rfl 43 _ rfl g 108 rfl [.int .u8 13, .string ⟨#[]⟩, .string ⟨#[66, 73, 84, 83, 69, 84]⟩, .int .i64 0, .int .i64 0, .int .i64 0, .int .i64 0, .slice none 0 0, .slice none 0 0, .slice none 0 0, .slice none 0 0, .int .i64 0] _ HR.out Try.underlying43 rfl infoTy ?_) | fail)
      obtain ⟨w7, hw7⟩ : ∃ w7, w6.alloc (.cells #[.int .u8 13, .string ⟨#[]⟩, .string ⟨#[66, 73, 84, 83, 69, 84]⟩, .int .i64 8, .int .i64 0, .int .i64 0, .int .i64 0, .slice none 0 0, .slice none 0 0, .slice none 0 0, .slice none 0 0, .int .i64 0] 43) = w7 := ⟨_, rfl⟩
      rw [hw7]
      obtain ⟨T6, K6, hs6⟩ := H6.out
      have K7 : Bl w6 w7 := by rw [← hw7]; exact bl_new _ _
      have X7 : Bx w7 w6.heap.size 43 #[.int .u8 13, .string ⟨#[]⟩, .string ⟨#[66, 73, 84, 83, 69, 84]⟩, .int .i64 8, .int .i64 0, .int .i64 0, .int .i64 0, .slice none 0 0, .slice none 0 0, .slice none 0 0, .slice none 0 0, .int .i64 0] := by rw [← hw7]; exact Bx.new _ _ _
      have T7 := T6.on K7
      obtain ⟨B2, hB2⟩ : ∃ B2, w6.heap.size = B2 := ⟨_, rfl⟩
      rw [hB2] at X7 ⊢
      have HSS : ∀ w', Bl w7 w' → (w'.cell? ⟨W, 0, none⟩ = some (.slice (some ⟨g, 0, none⟩) 10 cap) ∧ (w'.cell? ⟨B2, 0, none⟩ = some (.int .u8 13) ∧ w'.cell? ⟨B2, 1, none⟩ = some (.string ⟨#[]⟩) ∧ w'.cell? ⟨B2, 2, none⟩ = some (.string ⟨#[66, 73, 84, 83, 69, 84]⟩) ∧ w'.cell? ⟨B2, 3, none⟩ = some (.int .i64 8) ∧ w'.cell? ⟨B2, 4, none⟩ = some (.int .i64 0) ∧ w'.cell? ⟨B2, 5, none⟩ = some (.int .i64 0) ∧ w'.cell? ⟨B2, 6, none⟩ = some (.int .i64 0) ∧ w'.cell? ⟨B2, 7, none⟩ = some (.slice none 0 0) ∧ w'.cell? ⟨B2, 8, none⟩ = some (.slice none 0 0) ∧ w'.cell? ⟨B2, 9, none⟩ = some (.slice none 0 0) ∧ w'.cell? ⟨B2, 10, none⟩ = some (.slice none 0 0) ∧ w'.cell? ⟨B2, 11, none⟩ = some (.int .i64 0))) := fun w' z => by
        have X := X7.on z
        exact ⟨(T7.on z).c0, (X.at 0).1, (X.at 1).1, (X.at 2).1, (X.at 3).1, (X.at 4).1, (X.at 5).1, (X.at 6).1, (X.at 7).1, (X.at 8).1, (X.at 9).1, (X.at 10).1, (X.at 11).1⟩
      obtain ⟨cur, hcur, hcz, hTS⟩ := (T7.on (bl_drew w7)).set 9 (by decide) (⟨13, ⟨#[]⟩, ⟨#[66, 73, 84, 83, 69, 84]⟩, 8, 0, 0, 0, .no, .no, .no, .no, 0⟩)
      have HE := Lib.hid (And.intro K7 (And.intro hTS (And.intro K6 hs6)))
      clear hw7 K7 X7 T7 hTS hc6 hcA HR T6 K6 hs6
      refine region_l 6 (S := fun w' => w'.cell? ⟨W, 0, none⟩ = some (.slice (some ⟨g, 0, none⟩) 10 cap) ∧ (w'.cell? ⟨B2, 0, none⟩ = some (.int .u8 13) ∧ w'.cell? ⟨B2, 1, none⟩ = some (.string ⟨#[]⟩) ∧ w'.cell? ⟨B2, 2, none⟩ = some (.string ⟨#[66, 73, 84, 83, 69, 84]⟩) ∧ w'.cell? ⟨B2, 3, none⟩ = some (.int .i64 8) ∧ w'.cell? ⟨B2, 4, none⟩ = some (.int .i64 0) ∧ w'.cell? ⟨B2, 5, none⟩ = some (.int .i64 0) ∧ w'.cell? ⟨B2, 6, none⟩ = some (.int .i64 0) ∧ w'.cell? ⟨B2, 7, none⟩ = some (.slice none 0 0) ∧ w'.cell? ⟨B2, 8, none⟩ = some (.slice none 0 0) ∧ w'.cell? ⟨B2, 9, none⟩ = some (.slice none 0 0) ∧ w'.cell? ⟨B2, 10, none⟩ = some (.slice none 0 0) ∧ w'.cell? ⟨B2, 11, none⟩ = some (.int .i64 0))) (by kernel_rfl) ?_ (fun hHeld => ?_)
      · exact HSS _ (bl_drew w7)
      refine anyL_take (k := 12) (i := 0) (v := ?_) rfl (by kernel_rfl) (by kernel_rfl) (by kernel_rfl) (by kernel_rfl) (fun _ _ _ h => h) (Or.inl ⟨by rfl, ?_⟩) (by assumption) ?_
      rotate_left
      · intro w hSw; (try dsimp only at hSw); go_simp; try with_reducible rfl
      simp only [Act.put, List.setIfInBounds_toArray, List.set_cons_zero, List.set_cons_succ, List.getElem_toArray, List.getElem_cons_zero, List.getElem_cons_succ]
      refine anyL_take (k := 12) (i := 1) (v := ?_) rfl (by kernel_rfl) (by kernel_rfl) (by kernel_rfl) (by kernel_rfl) (fun _ _ _ h => h) (Or.inl ⟨by rfl, ?_⟩) (by assumption) ?_
      rotate_left
      · intro w hSw; (try dsimp only at hSw); go_simp; try with_reducible rfl
      simp only [Act.put, List.setIfInBounds_toArray, List.set_cons_zero, List.set_cons_succ, List.getElem_toArray, List.getElem_cons_zero, List.getElem_cons_succ]
      refine anyL_take (k := 12) (i := 2) (v := ?_) rfl (by kernel_rfl) (by kernel_rfl) (by kernel_rfl) (by kernel_rfl) (fun _ _ _ h => h) (Or.inl ⟨by rfl, ?_⟩) (by assumption) ?_
      rotate_left
      · intro w hSw; (try dsimp only at hSw); go_simp; try with_reducible rfl
      simp only [Act.put, List.setIfInBounds_toArray, List.set_cons_zero, List.set_cons_succ, List.getElem_toArray, List.getElem_cons_zero, List.getElem_cons_succ]
      refine anyL_take (k := 12) (i := 3) (v := ?_) rfl (by kernel_rfl) (by kernel_rfl) (by kernel_rfl) (by kernel_rfl) (fun _ _ _ h => h) (Or.inl ⟨by rfl, ?_⟩) (by assumption) ?_
      rotate_left
      · intro w hSw; (try dsimp only at hSw); go_simp; try with_reducible rfl
      simp only [Act.put, List.setIfInBounds_toArray, List.set_cons_zero, List.set_cons_succ, List.getElem_toArray, List.getElem_cons_zero, List.getElem_cons_succ]
      refine anyL_take (k := 12) (i := 4) (v := ?_) rfl (by kernel_rfl) (by kernel_rfl) (by kernel_rfl) (by kernel_rfl) (fun _ _ _ h => h) (Or.inl ⟨by rfl, ?_⟩) (by assumption) ?_
      rotate_left
      · intro w hSw; (try dsimp only at hSw); go_simp; try with_reducible rfl
      simp only [Act.put, List.setIfInBounds_toArray, List.set_cons_zero, List.set_cons_succ, List.getElem_toArray, List.getElem_cons_zero, List.getElem_cons_succ]
      refine anyL_take (k := 12) (i := 5) (v := ?_) rfl (by kernel_rfl) (by kernel_rfl) (by kernel_rfl) (by kernel_rfl) (fun _ _ _ h => h) (Or.inl ⟨by rfl, ?_⟩) (by assumption) ?_
      rotate_left
      · intro w hSw; (try dsimp only at hSw); go_simp; try with_reducible rfl
      simp only [Act.put, List.setIfInBounds_toArray, List.set_cons_zero, List.set_cons_succ, List.getElem_toArray, List.getElem_cons_zero, List.getElem_cons_succ]
      refine anyL_ready (rs := [6]) (by kernel_rfl) (by simp) ?_
      refine AllL.last rfl (by kernel_rfl) (fun K hK => ?_) ?_
      rotate_left
      · exact AllL.nil
      refine step_store_at (by rfl) 43 _ _ (by rfl) g 108 #[.int .u8 13, .string ⟨#[]⟩, .string ⟨#[66, 73, 84, 83, 69, 84]⟩, .int .i64 8, .int .i64 0, .int .i64 0, .int .i64 0, .slice none 0 0, .slice none 0 0, .slice none 0 0, .slice none 0 0, .int .i64 0] (by rfl) (by rfl) 43 cur hcur infoTy hcz (by simp [Value.oneCell']) ?_
      refine hK.out _ _ ?_
      clear hK K
      try simp only [Act.put, List.setIfInBounds_toArray, List.set_cons_zero, List.set_cons_succ, List.getElem_toArray, List.getElem_cons_zero, List.getElem_cons_succ]
      refine anyL_done (by kernel_rfl) ?_ _
      clear hHeld HSS hcur hcz
      obtain ⟨w8, hw8⟩ : ∃ w8, w7.drew.setRow g (List.take 108 cur.toList ++ ([.int .u8 13, .string ⟨#[]⟩, .string ⟨#[66, 73, 84, 83, 69, 84]⟩, .int .i64 8, .int .i64 0, .int .i64 0, .int .i64 0, .slice none 0 0, .slice none 0 0, .slice none 0 0, .slice none 0 0, .int .i64 0] : List Value) ++ List.drop (108 + (#[.int .u8 13, .string ⟨#[]⟩, .string ⟨#[66, 73, 84, 83, 69, 84]⟩, .int .i64 8, .int .i64 0, .int .i64 0, .int .i64 0, .slice none 0 0, .slice none 0 0, .slice none 0 0, .slice none 0 0, .int .i64 0] : Array Value).size) cur.toList).toArray = w8 := ⟨_, rfl⟩
      rw [hw8]
      go_wp2_with fail
      go_ret
      obtain ⟨K7, hTS, K6, hs6⟩ := HE.out
      refine ⟨rfl, ?_, ?_, g, (by omega), cap, ?_⟩
      · rw [← hw8]; exact bl_row ((K6.on K7).on (bl_drew _)) (by omega) _
      · rw [← hw8, setRow_size]; have := K7.size; show _ ≤ w7.heap.size; omega
      · first | (rw [← hw8]; exact hTS) | (rw [← hw8, hW]; exact hTS)
end Go.Proofs.Ytepfknfadpkigaa
