/- Package types: tables, with what their types hold. -/
import Derived.Test.YtepfknfadpkigaaTyE
namespace Go.Proofs.Ytepfknfadpkigaa
open Go.RowKit
set_option maxHeartbeats 1000000
set_option maxRecDepth 100000
set_option linter.unusedVariables false
set_option linter.unusedSimpArgs false

/-- All is as it was but blocks of M. -/
structure Fx (M : List Nat) (w w' : World) : Prop where
  os : w'.os = w.os
  tape : w'.tape = w.tape
  output : w'.output = w.output
  size : w.heap.size ≤ w'.heap.size
  block : ∀ k, k < w.heap.size → k ∉ M → w'.heap[k]? = w.heap[k]?
theorem Fx.refl (M : List Nat) (w : World) : Fx M w w := ⟨rfl, rfl, rfl, Nat.le_refl _, fun _ _ _ => rfl⟩
theorem Fx.of {w w' : World} (M : List Nat) (h : Bl w w') : Fx M w w' := ⟨h.os, h.tape, h.output, h.size, fun k hk _ => h.block k hk⟩
/-- One behind the other: what the second turns, the first may turn, or it is new. -/
theorem Fx.on {M N : List Nat} {a b c : World} (h : Fx M a b) (k : Fx N b c) (hN : ∀ j ∈ N, j ∈ M ∨ a.heap.size ≤ j) : Fx M a c :=
  ⟨k.os.trans h.os, k.tape.trans h.tape, k.output.trans h.output, Nat.le_trans h.size k.size, fun j hj hm => (k.block j (Nat.lt_of_lt_of_le hj h.size) (fun hn => by
    rcases hN j hn with h1 | h1
    · exact hm h1
    · omega)).trans (h.block j hj hm)⟩
theorem Fx.low {M : List Nat} {w w' : World} (h : Fx M w w') {B : Nat} (hB : B ≤ w.heap.size) (hM : ∀ j ∈ M, B ≤ j) : Below B w w' :=
  ⟨h.os, h.tape, h.output, h.size, fun k hk => h.block k (by omega) (fun hm => by have := hM k hm; omega)⟩
theorem Row.fx {α : Type} {w w' : World} {B : Nat} {z : Sl} {enc : α → List Value} {st : Nat} {l : List α} (h : Row w B z enc st l) {M : List Nat} (f : Fx M w w') (hM : ∀ j ∈ M, j < B ∨ w.heap.size ≤ j) : Row w' B z enc st l := by
  refine ⟨h.n, fun hl => ?_⟩
  obtain ⟨g, o, g1, g2, g3, g4, g5⟩ := h.c hl
  have hb := f.block g g3 (fun hm => by have := hM g hm; omega)
  refine ⟨g, o, g1, g2, Nat.lt_of_lt_of_le g3 f.size, fun i x hx k y hy => ?_, fun hB k hk => (World.frozen?_of_block (a := ⟨g, _, none⟩) hb).trans (g5 hB k hk)⟩
  rw [World.cell?_of_block (a := ⟨g, _, none⟩) hb]
  exact g4 i x hx k y hy
theorem RowAr.fx {w w' : World} {B : Nat} {z : Sl} {cs : List (List Int × List Int × Bool)} (h : RowAr w B z cs) {M : List Nat} (f : Fx M w w') (hM : ∀ j ∈ M, j < B ∨ w.heap.size ≤ j) : RowAr w' B z cs := by
  obtain ⟨l, h1, h2, h3⟩ := h
  exact ⟨l, h1.fx f hM, h2, fun i x c hx hc => ⟨(h3 i x c hx hc).f.fx f hM, (h3 i x c hx hc).t.fx f hM, (h3 i x c hx hc).e⟩⟩
theorem Has.fx {w w' : World} {B : Nat} {x : TyV} {c : TyK} (h : Has w B x c) {M : List Nat} (f : Fx M w w') (hM : ∀ j ∈ M, j < B ∨ w.heap.size ≤ j) : Has w' B x c := ⟨h.s, h.ns.fx f hM, h.fs.fx f hM, h.rs.fx f hM, h.ps.fx f hM⟩
/-- What stays, whatever becomes of the blocks of M. -/
def HasM (w : World) (M : List Nat) (x : TyV) (c : TyK) : Prop := ∀ w', Fx M w w' → Has w' 0 x c
theorem HasM.of {w : World} {B : Nat} {x : TyV} {c : TyK} (h : Has w B x c) {M : List Nat} (hM : ∀ j ∈ M, j < B ∨ w.heap.size ≤ j) : HasM w M x c := fun w' f => (h.fx f hM).low (Nat.zero_le _)
theorem HasM.now {w : World} {M : List Nat} {x : TyV} {c : TyK} (h : HasM w M x c) : Has w 0 x c := h w (Fx.refl _ _)
theorem HasM.next {w w' : World} {M N : List Nat} {x : TyV} {c : TyK} (h : HasM w M x c) (f : Fx M w w') (hN : ∀ j ∈ N, j ∈ M ∨ w.heap.size ≤ j) : HasM w' N x c := fun w2 f2 => h w2 (f.on f2 hN)
/-- A table, with what its types hold. -/
structure TabK (w : World) (t g cap : Nat) (M : List Nat) (L : List TyV) (K : List TyK) : Prop where
  tab : Tab w t g cap L
  len : K.length = L.length
  has : ∀ (i : Nat) x c, L[i]? = some x → K[i]? = some c → HasM w M x c
  ok : ∀ c ∈ K, c.ok
  mt : t ∈ M
  mg : g ∈ M
  lt : ∀ j ∈ M, j < w.heap.size
theorem TabK.on {w w' : World} {t g cap : Nat} {M : List Nat} {L : List TyV} {K : List TyK} (h : TabK w t g cap M L K) (k : Bl w w') : TabK w' t g cap M L K :=
  ⟨h.tab.on k, h.len, fun i x c hx hc => (h.has i x c hx hc).next (Fx.of _ k) (fun j hj => .inl hj), h.ok, h.mt, h.mg, fun j hj => Nat.lt_of_lt_of_le (h.lt j hj) k.size⟩
theorem TabK.keep {w w' : World} {t g cap : Nat} {M : List Nat} {L : List TyV} {K : List TyK} (h : TabK w t g cap M L K) {N M' : List Nat} (f : Fx N w w') (hN : ∀ j ∈ N, j ∈ M ∧ j ≠ t ∧ j ≠ g) (hM : ∀ j ∈ M', j ∈ M ∨ w.heap.size ≤ j) (ht : t ∈ M') (hg : g ∈ M') (hlt : ∀ j ∈ M', j < w'.heap.size) : TabK w' t g cap M' L K := by
  have fM : Fx M w w' := ⟨f.os, f.tape, f.output, f.size, fun k hk hm => f.block k hk (fun hn => hm (hN k hn).1)⟩
  exact ⟨h.tab.same (f.block t h.tab.t.1 (fun hm => (hN t hm).2.1 rfl)) (f.block g h.tab.t.2 (fun hm => (hN g hm).2.2 rfl)) f.size, h.len, fun i x c hx hc => (h.has i x c hx hc).next fM hM, h.ok, ht, hg, hlt⟩
def atK (K : List TyK) (i : Int) : TyK := if 0 ≤ i then (K[i.toNat]?).getD .z else .z
theorem TabK.at {w : World} {t g cap : Nat} {M : List Nat} {L : List TyV} {K : List TyK} (h : TabK w t g cap M L K) (i : Int) : Has w 0 (atP L i) (atK K i) ∧ (atK K i).ok := by
  have hz : TyK.z.ok := ⟨by simp [TyK.z], by simp [TyK.z], by simp [TyK.z], by simp [TyK.z], by simp [TyK.z], by simp [TyK.z]⟩
  unfold atP atK
  by_cases h0 : 0 ≤ i
  · rw [if_pos h0, if_pos h0]
    by_cases h1 : i.toNat < L.length
    · have h2 : i.toNat < K.length := by rw [h.len]; exact h1
      rw [List.getElem?_eq_getElem h1, List.getElem?_eq_getElem h2]
      exact ⟨(h.has _ _ _ (List.getElem?_eq_getElem h1) (List.getElem?_eq_getElem h2)).now, h.ok _ (List.getElem_mem h2)⟩
    · have h2 : ¬ i.toNat < K.length := by rw [h.len]; exact h1
      rw [List.getElem?_eq_none (by omega), List.getElem?_eq_none (by omega)]
      exact ⟨has_z _ _, hz⟩
  · rw [if_neg h0, if_neg h0]
    exact ⟨has_z _ _, hz⟩
theorem get_any {w : World} {t g cap : Nat} {M : List Nat} {L : List TyV} {K : List TyK} (h : TabK w t g cap M L K) (i : Int) : Calls Try.prog 13 #[.pointer (some ⟨t, 0, none⟩), .int .i64 i] w fun e w' => ∃ y : TyV, e = .returned y.val ∧ Bl w w' ∧ Has w' w.heap.size y (atK K i) := by
  have HA := fun w1 (k : Bl w w1) => at_any (h.tab.on k) i
  have HC := fun w1 (k : Bl w w1) => copied_any (atP L i) (atK K i) w1 ((h.on k).at i).1 (h.at i).2
  clear h
  generalize atP L i = x at *
  go_enter Try.func13, Try.ntmps13
  go_wp2_with fail
  refine (HA _ (bl_new _ _)).mono ?_
  rintro e w1 ⟨rfl, k1⟩
  have K1 := (bl_new w (.cells #[.int .u8 0, .string ⟨#[]⟩, .string ⟨#[]⟩, .int .i64 0, .int .i64 0, .int .i64 0, .int .i64 0, .slice none 0 0, .slice none 0 0, .slice none 0 0, .slice none 0 0, .int .i64 0] 43)).on k1
  have Y := (Bx.new w 43 #[.int .u8 0, .string ⟨#[]⟩, .string ⟨#[]⟩, .int .i64 0, .int .i64 0, .int .i64 0, .int .i64 0, .slice none 0 0, .slice none 0 0, .slice none 0 0, .slice none 0 0, .int .i64 0]).on k1
  have hs : w.heap.size + 1 ≤ w1.heap.size := by simpa using k1.size
  clear k1
  go_wp2_with fail
  refine (HC _ K1).mono ?_
  rintro e w2 ⟨y, rfl, k2, hy⟩
  have Y := Y.on k2
  have HH := Lib.hid (And.intro (K1.on k2) hy)
  clear k2 hy HA HC K1
  go_wp2_with (first | (refine wpList_store_row rfl 43 _ _ rfl w.heap.size y.arr rfl rfl 43 _ Y infoTy rfl y.one ?_) | fail)
  refine bodyPost_ret (v := y.val) ?_ rfl ?_
  · exact results_cell_row Try.results13 _ _ _ 43 y.arr (0, 0) _ rfl (Y.set _) Try.underlying43 rfl infoTy
  · exact ⟨y, rfl, bl_row HH.out.1 (Nat.le_refl _) _, (HH.out.2.farR (by omega) _).low (by omega)⟩
theorem infoT12 : (Try.prog.info? 43).map (fun i => (i.zero, i.size, i.bytes)) = some (some (.agg #[.int .u8 0, .string ⟨#[]⟩, .string ⟨#[]⟩, .int .i64 0, .int .i64 0, .int .i64 0, .int .i64 0, .slice none 0 0, .slice none 0 0, .slice none 0 0, .slice none 0 0, .int .i64 0]), 12, 176) := by kernel_rfl
theorem own_of {w : World} {g : Nat} {cs : Array Value} {L : List TyV} (h : w.heap[g]? = some (.cells cs 43)) (hc : cs.toList = rowT L) (hm : L.length ≤ maxLen) : w.ownsRow 0 43 12 (.slice (some ⟨g, 0, none⟩) L.length L.length) L.length (rowT L) := by
  have hl : cs.size = L.length * 12 := by rw [← rowT_len, ← hc]; simp
  exact ⟨rowT_len L, .inr ⟨g, L.length, cs, rfl, Nat.zero_le _, h, Nat.le_refl _, hm, hl, by rw [hc, ← rowT_len]; exact List.take_length⟩⟩
def L0 : List TyV := [⟨0, ⟨#[]⟩, ⟨#[]⟩, 0, 0, 0, 0, .no, .no, .no, .no, 0⟩, ⟨1, ⟨#[]⟩, ⟨#[73, 78, 84, 69, 71, 69, 82]⟩, 0, 0, 0, 0, .no, .no, .no, .no, 0⟩, ⟨2, ⟨#[]⟩, ⟨#[67, 65, 82, 68, 73, 78, 65, 76]⟩, 0, 0, 0, 0, .no, .no, .no, .no, 0⟩, ⟨3, ⟨#[]⟩, ⟨#[66, 79, 79, 76, 69, 65, 78]⟩, 0, 0, 0, 0, .no, .no, .no, .no, 0⟩, ⟨4, ⟨#[]⟩, ⟨#[67, 72, 65, 82]⟩, 0, 0, 0, 0, .no, .no, .no, .no, 0⟩, ⟨5, ⟨#[]⟩, ⟨#[]⟩, 0, 0, 0, 0, .no, .no, .no, .no, 0⟩, ⟨6, ⟨#[]⟩, ⟨#[]⟩, 0, 0, 0, 0, .no, .no, .no, .no, 0⟩, ⟨7, ⟨#[]⟩, ⟨#[]⟩, 0, 0, 0, 0, .no, .no, .no, .no, 0⟩, ⟨9, ⟨#[]⟩, ⟨#[]⟩, 2, 0, 0, 15, .no, .no, .no, .no, 0⟩, ⟨13, ⟨#[]⟩, ⟨#[66, 73, 84, 83, 69, 84]⟩, 8, 0, 0, 0, .no, .no, .no, .no, 0⟩]
def K0 : List TyK := [⟨0, ⟨#[]⟩, ⟨#[]⟩, 0, 0, 0, 0, [], [], [], [], 0⟩, ⟨1, ⟨#[]⟩, ⟨#[73, 78, 84, 69, 71, 69, 82]⟩, 0, 0, 0, 0, [], [], [], [], 0⟩, ⟨2, ⟨#[]⟩, ⟨#[67, 65, 82, 68, 73, 78, 65, 76]⟩, 0, 0, 0, 0, [], [], [], [], 0⟩, ⟨3, ⟨#[]⟩, ⟨#[66, 79, 79, 76, 69, 65, 78]⟩, 0, 0, 0, 0, [], [], [], [], 0⟩, ⟨4, ⟨#[]⟩, ⟨#[67, 72, 65, 82]⟩, 0, 0, 0, 0, [], [], [], [], 0⟩, ⟨5, ⟨#[]⟩, ⟨#[]⟩, 0, 0, 0, 0, [], [], [], [], 0⟩, ⟨6, ⟨#[]⟩, ⟨#[]⟩, 0, 0, 0, 0, [], [], [], [], 0⟩, ⟨7, ⟨#[]⟩, ⟨#[]⟩, 0, 0, 0, 0, [], [], [], [], 0⟩, ⟨9, ⟨#[]⟩, ⟨#[]⟩, 2, 0, 0, 15, [], [], [], [], 0⟩, ⟨13, ⟨#[]⟩, ⟨#[66, 73, 84, 83, 69, 84]⟩, 8, 0, 0, 0, [], [], [], [], 0⟩]
theorem ok0 : ∀ c ∈ K0, c.ok := by
  intro c hc
  have h : (0 ≤ c.k ∧ c.k ≤ 255) ∧ c.ns = [] ∧ c.fs = [] ∧ c.rs = [] ∧ c.ps = [] := by
    simp only [K0, List.mem_cons, List.not_mem_nil, or_false] at hc
    rcases hc with rfl | rfl | rfl | rfl | rfl | rfl | rfl | rfl | rfl | rfl <;> exact ⟨by decide, rfl, rfl, rfl, rfl⟩
  obtain ⟨h0, h1, h2, h3, h4⟩ := h
  exact ⟨h0, by rw [h1]; simp, by rw [h2]; simp, by rw [h3]; simp, by rw [h3]; simp, by rw [h4]; simp⟩
/-- What has no lists stays, whatever becomes of the world. -/
theorem has_flat (w : World) (B : Nat) (x : TyV) (c : TyK) (h : x.ns = .no ∧ x.fs = .no ∧ x.rs = .no ∧ x.ps = .no) (k : c.ns = [] ∧ c.fs = [] ∧ c.rs = [] ∧ c.ps = []) (s : x.k = c.k ∧ x.m = c.m ∧ x.n = c.n ∧ x.b = c.b ∧ x.x = c.x ∧ x.lo = c.lo ∧ x.hi = c.hi ∧ x.r = c.r) : Has w B x c := by
  obtain ⟨h1, h2, h3, h4⟩ := h
  obtain ⟨k1, k2, k3, k4⟩ := k
  exact ⟨s, by rw [h1, k1]; exact row_nil _ _ _ _, by rw [h2, k2]; exact row_nil _ _ _ _, by rw [h3, k3]; exact row_nilA _ _, by rw [h4, k4]; exact row_nil _ _ _ _⟩
theorem has0 (i : Nat) (x : TyV) (c : TyK) (hx : L0[i]? = some x) (hc : K0[i]? = some c) (w : World) (B : Nat) : Has w B x c := by
  have hi : i < 10 := (List.getElem?_eq_some_iff.1 hx).1
  match i, hi with
  | 0, _ | 1, _ | 2, _ | 3, _ | 4, _ | 5, _ | 6, _ | 7, _ | 8, _ | 9, _ =>
    injection hx with hx
    injection hc with hc
    subst hx hc
    exact has_flat _ _ _ _ ⟨rfl, rfl, rfl, rfl⟩ ⟨rfl, rfl, rfl, rfl⟩ ⟨rfl, rfl, rfl, rfl, rfl, rfl, rfl, rfl⟩
theorem new_any (w : World) : Calls Try.prog 20 #[] w fun e w' => e = .returned (.pointer (some ⟨w.heap.size + 1, 0, none⟩)) ∧ Bl w w' ∧ w.heap.size + 2 ≤ w'.heap.size ∧ ∀ M : List Nat, w.heap.size + 1 ∈ M → w.heap.size ∈ M → (∀ j ∈ M, j < w'.heap.size) → TabK w' (w.heap.size + 1) w.heap.size 10 M L0 K0 := by
  go_enter Try.func20, Try.ntmps20
  go_wp2_with fail
  go_ret
  refine ⟨rfl, (bl_new _ _).on (bl_new _ _), by simp, fun M h1 h2 h3 => ⟨⟨?_, own_of ((heap_alloc_old _ _ (by simp)).trans (heap_alloc_new _ _)) rfl (by show 10 ≤ _; unfold maxLen; omega), by decide, by omega, by simp; omega⟩, rfl, fun i x c hx hc w2 _ => has0 i x c hx hc w2 0, ok0, h1, h2, h3⟩⟩
  · exact heap_alloc2_new _ _ _
end Go.Proofs.Ytepfknfadpkigaa
