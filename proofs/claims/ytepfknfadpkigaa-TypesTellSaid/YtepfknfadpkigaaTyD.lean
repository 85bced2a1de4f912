/- Package types: arms are copied, and types. -/
import Derived.Test.YtepfknfadpkigaaTyC
namespace Go.Proofs.Ytepfknfadpkigaa
open Go.RowKit
set_option maxHeartbeats 1000000
set_option maxRecDepth 100000
set_option linter.unusedVariables false
set_option linter.unusedSimpArgs false

theorem Bx.cell {w : World} {b : Nat} {t : TypeId} {cs : Array Value} (h : Bx w b t cs) (j : Nat) (v : Value) : Bx (w.setCell ⟨b, j, none⟩ v) b t (cs.setIfInBounds j v) := by
  unfold Bx at *
  have hlt : b < w.heap.size := (Array.getElem?_eq_some_iff.1 h).1
  have hx : w.heap[b] = .cells cs t := (Array.getElem?_eq_some_iff.1 h).2
  unfold World.setCell
  rw [Array.getElem?_modify, if_pos rfl, h]
  rfl
theorem Bx.off1 {w : World} {b c : Nat} {t : TypeId} {cs : Array Value} (h : Bx w b t cs) (hne : b ≠ c) (j : Nat) (v : Value) : Bx (w.setCell ⟨c, j, none⟩ v) b t cs := by
  unfold Bx at *
  rw [show (w.setCell ⟨c, j, none⟩ v).heap[b]? = w.heap[b]? from by simp [World.setCell, Array.getElem?_modify, Ne.symm hne]]
  exact h
theorem Row.far {α : Type} {w : World} {B : Nat} {z : Sl} {enc : α → List Value} {st : Nat} {l : List α} (h : Row w B z enc st l) {b : Nat} (hb : b < B) (j : Nat) (v : Value) : Row (w.setCell ⟨b, j, none⟩ v) B z enc st l := by
  refine ⟨h.n, fun hl => ?_⟩
  obtain ⟨g, o, g1, g2, g3, g4, g5⟩ := h.c hl
  refine ⟨g, o, g1, g2, by simpa using g3, fun i x hx k y hy => ?_, fun hB k hk => ?_⟩
  · rw [World.cell?_setCell_other _ _ _ _ (by intro e; injection e with e; omega)]
    exact g4 i x hx k y hy
  · rw [show (w.setCell ⟨b, j, none⟩ v).frozen? ⟨g, o + k, none⟩ = w.frozen? ⟨g, o + k, none⟩ from World.frozen?_of_block (a := ⟨g, _, none⟩) (by simp [World.setCell, Array.getElem?_modify, show ¬ b = g by omega])]
    exact g5 hB k hk
theorem Row.farR {α : Type} {w : World} {B : Nat} {z : Sl} {enc : α → List Value} {st : Nat} {l : List α} (h : Row w B z enc st l) {b : Nat} (hb : b < B) (cs : Array Value) : Row (w.setRow b cs) B z enc st l := by
  refine ⟨h.n, fun hl => ?_⟩
  obtain ⟨g, o, g1, g2, g3, g4, g5⟩ := h.c hl
  refine ⟨g, o, g1, g2, by simpa using g3, fun i x hx k y hy => ?_, fun hB k hk => ?_⟩
  · rw [cell_setRow_other _ _ _ _ (by show g ≠ b; omega)]
    exact g4 i x hx k y hy
  · rw [show (w.setRow b cs).frozen? ⟨g, o + k, none⟩ = w.frozen? ⟨g, o + k, none⟩ from World.frozen?_of_block (a := ⟨g, _, none⟩) (setRow_other w b g cs (by omega))]
    exact g5 hB k hk
theorem Bx.at {w : World} {b : Nat} {t : TypeId} {cs : Array Value} (h : Bx w b t cs) (j : Nat) : w.cell? ⟨b, j, none⟩ = cs[j]? ∧ w.frozen? ⟨b, j, none⟩ = false := by
  unfold Bx at h
  constructor
  · simp [World.cell?, h]
  · simp [World.frozen?, h]
def encAr (e : Sl × Sl × Bool) : List Value := [.slice e.1.p e.1.n e.1.c, .slice e.2.1.p e.2.1.n e.2.1.c, .bool e.2.2]
/-- An arm, with its lists. -/
structure HasAr (w : World) (B : Nat) (a : Sl × Sl × Bool) (c : List Int × List Int × Bool) : Prop where
  f : Row w B a.1 encIn 1 c.1
  t : Row w B a.2.1 encIn 1 c.2.1
  e : a.2.2 = c.2.2
theorem HasAr.on {w w' : World} {B : Nat} {a : Sl × Sl × Bool} {c : List Int × List Int × Bool} (h : HasAr w B a c) (k : Bl w w') : HasAr w' B a c := ⟨h.f.on k, h.t.on k, h.e⟩
theorem HasAr.low {w : World} {B B' : Nat} {a : Sl × Sl × Bool} {c : List Int × List Int × Bool} (h : HasAr w B a c) (hb : B' ≤ B) : HasAr w B' a c := ⟨h.f.low hb, h.t.low hb, h.e⟩
def arOk (c : List Int × List Int × Bool) : Prop := c.1.length ≤ 1048576 ∧ c.2.1.length ≤ 1048576
theorem sizeAr : (Try.prog.info? 57).map (·.size) = some 3 := by kernel_rfl
theorem infoAr : (Try.prog.info? 57).map (fun i => (i.zero, i.size, i.bytes)) = some (some (.agg #[.slice none 0 0, .slice none 0 0, .bool false]), 3, 56) := by kernel_rfl
theorem arm_any (a : Sl × Sl × Bool) (c : List Int × List Int × Bool) (w : World) (h : HasAr w 0 a c) (ho : arOk c) : Calls Try.prog 52 #[.agg #[.slice a.1.p a.1.n a.1.c, .slice a.2.1.p a.2.1.n a.2.1.c, .bool a.2.2]] w fun e w' => ∃ b : Sl × Sl × Bool, e = .returned (.agg #[.slice b.1.p b.1.n b.1.c, .slice b.2.1.p b.2.1.n b.2.1.c, .bool b.2.2]) ∧ Bl w w' ∧ HasAr w' w.heap.size b c := by
  obtain ⟨p, q, r0⟩ := a
  obtain ⟨cf, ct, r⟩ := c
  have HF : ∀ w1, Bl w w1 → Calls Try.prog 59 #[.slice p.p p.n p.c, .func (.func 60) #[] #[]] w1 fun e w' => ∃ u : Sl, e = .returned (.slice u.p u.n u.c) ∧ Bl w1 w' ∧ Row w' w1.heap.size u encIn 1 cf := fun w1 k => copiesIn p cf w1 (h.f.on k) ho.1
  have HT : ∀ w1, Bl w w1 → Calls Try.prog 59 #[.slice q.p q.n q.c, .func (.func 60) #[] #[]] w1 fun e w' => ∃ u : Sl, e = .returned (.slice u.p u.n u.c) ∧ Bl w1 w' ∧ Row w' w1.heap.size u encIn 1 ct := fun w1 k => copiesIn q ct w1 (h.t.on k) ho.2
  have he := h.e
  simp only at he
  subst he
  simp only
  clear h ho
  go_enter Try.func52, Try.ntmps52
  go_wp2_with fail
  refine (HF _ ((bl_new _ _).on (bl_new _ _))).mono ?_
  rintro e w3 ⟨u, rfl, k3, r3⟩
  obtain ⟨W, hW⟩ : ∃ W, w.heap.size = W := ⟨_, rfl⟩
  have X0 := ((Bx.new w 57 #[.slice p.p p.n p.c, .slice q.p q.n q.c, .bool r0]).on (bl_new _ (.cells #[.slice none 0 0, .slice none 0 0, .bool false] 57))).on k3
  have Y0 := (Bx.new (w.alloc (.cells #[.slice p.p p.n p.c, .slice q.p q.n q.c, .bool r0] 57)) 57 #[.slice none 0 0, .slice none 0 0, .bool false]).on k3
  simp only [World.size_alloc, hW] at X0 Y0
  have k03 := ((bl_new w _).on (bl_new _ _)).on k3
  rw [hW]
  have x0 := X0.at 0
  have x1 := X0.at 1
  simp only [List.getElem?_toArray, List.getElem?_cons_zero, List.getElem?_cons_succ] at x0 x1
  obtain ⟨x00, x0f⟩ := x0
  obtain ⟨x10, x1f⟩ := x1
  have HH := Lib.hid (And.intro X0 (And.intro Y0 (And.intro k03 (And.intro r3 hW))))
  clear X0 Y0 k03 r3 HF
  go_wp2_with fail
  obtain ⟨w4, hw4⟩ : ∃ w4, w3.setCell ⟨W, 0, none⟩ (.slice u.p u.n u.c) = w4 := ⟨_, rfl⟩
  rw [hw4]
  obtain ⟨X0, Y0, k03, r3, hW⟩ := HH.out
  have X1 := X0.cell 0 (.slice u.p u.n u.c)
  have Y1 := Y0.off1 (c := W) (by omega) 0 (.slice u.p u.n u.c)
  have k04 : Bl w w4 := by rw [← hw4]; exact k03.setCell (by show w.heap.size ≤ W; omega) _
  rw [hw4] at X1 Y1
  simp only [World.size_alloc] at r3
  have r4 : Row w4 (w.heap.size + 1 + 1) u encIn 1 cf := by rw [← hw4]; exact r3.far (by omega) _ _
  have s4 : w.heap.size + 1 + 1 ≤ w4.heap.size := by
    rw [← hw4]
    simpa using k3.size
  have HH2 := Lib.hid (And.intro X1 (And.intro Y1 (And.intro k04 (And.intro r4 (And.intro s4 hW)))))
  clear X0 Y0 k03 r3 X1 Y1 r4 s4 HH x00 x0f x10 x1f k3 hw4
  refine (HT _ k04).mono ?_
  rintro e w5 ⟨v, rfl, k5, r5⟩
  obtain ⟨X1, Y1, k04, r4, s4, hW⟩ := HH2.out
  have X2 := X1.on k5
  have Y2 := Y1.on k5
  have x1 := X2.at 1
  simp only [List.setIfInBounds_toArray, List.set_cons_zero, List.getElem?_toArray, List.getElem?_cons_zero, List.getElem?_cons_succ] at x1
  obtain ⟨x10, x1f⟩ := x1
  have X3 := X2.cell 1 (.slice v.p v.n v.c)
  have Y3 := Y2.off1 (c := W) (by omega) 1 (.slice v.p v.n v.c)
  have k06 : Bl w (w5.setCell ⟨W, 1, none⟩ (.slice v.p v.n v.c)) := (k04.on k5).setCell (by show w.heap.size ≤ W; omega) _
  have r6 := (r4.on k5).far (b := W) (by omega) 1 (.slice v.p v.n v.c)
  have t6 := r5.far (b := W) (by omega) 1 (.slice v.p v.n v.c)
  have HH3 := Lib.hid (And.intro k06 (And.intro r6 (And.intro t6 (And.intro s4 hW))))
  clear X1 Y1 k04 r4 k06 r6 t6 s4 HH2 k5 r5 X2 Y2 HT
  simp only [List.setIfInBounds_toArray, List.set_cons_zero, List.set_cons_succ] at X3 Y3
  go_wp2_with (first | (refine wpList_load_row rfl 57 _ rfl W rfl 57 #[.slice u.p u.n u.c, .slice v.p v.n v.c, .bool r0] (0, 0) _ X3 Try.underlying57 rfl sizeAr ?_) | (refine wpList_store_row rfl 57 _ _ rfl (W + 1) #[.slice u.p u.n u.c, .slice v.p v.n v.c, .bool r0] rfl rfl 57 _ Y3 sizeAr rfl (by simp [Value.oneCell']) ?_))
  refine bodyPost_ret (v := .agg #[.slice u.p u.n u.c, .slice v.p v.n v.c, .bool r0]) ?_ rfl ?_
  · exact results_cell_row Try.results52 _ _ _ 57 #[.slice u.p u.n u.c, .slice v.p v.n v.c, .bool r0] (0, 0) _ rfl (Y3.set _) Try.underlying57 rfl sizeAr
  · obtain ⟨k06, r6, t6, s4, hW⟩ := HH3.out
    exact ⟨(u, v, r0), rfl, bl_row k06 (by omega) _, ⟨(r6.farR (by omega) _).low (by omega), (t6.farR (by omega) _).low (by omega), rfl⟩⟩
/-- A row of arms, with their lists. -/
def RowAr (w : World) (B : Nat) (v : Sl) (cs : List (List Int × List Int × Bool)) : Prop :=
  ∃ l, Row w B v encAr 3 l ∧ l.length = cs.length ∧ ∀ (i : Nat) x c, l[i]? = some x → cs[i]? = some c → HasAr w B x c
theorem RowAr.on {w w' : World} {B : Nat} {v : Sl} {cs : List (List Int × List Int × Bool)} (h : RowAr w B v cs) (k : Bl w w') : RowAr w' B v cs := by
  obtain ⟨l, h1, h2, h3⟩ := h
  exact ⟨l, h1.on k, h2, fun i x c hx hc => (h3 i x c hx hc).on k⟩
theorem RowAr.low {w : World} {B B' : Nat} {v : Sl} {cs : List (List Int × List Int × Bool)} (h : RowAr w B v cs) (hb : B' ≤ B) : RowAr w B' v cs := by
  obtain ⟨l, h1, h2, h3⟩ := h
  exact ⟨l, h1.low hb, h2, fun i x c hx hc => (h3 i x c hx hc).low hb⟩
theorem HasAr.far {w : World} {B : Nat} {a : Sl × Sl × Bool} {c : List Int × List Int × Bool} (h : HasAr w B a c) {b : Nat} (hb : b < B) (j : Nat) (v : Value) : HasAr (w.setCell ⟨b, j, none⟩ v) B a c := ⟨h.f.far hb j v, h.t.far hb j v, h.e⟩
theorem HasAr.farR {w : World} {B : Nat} {a : Sl × Sl × Bool} {c : List Int × List Int × Bool} (h : HasAr w B a c) {b : Nat} (hb : b < B) (cs : Array Value) : HasAr (w.setRow b cs) B a c := ⟨h.f.farR hb cs, h.t.farR hb cs, h.e⟩
theorem HasAr.farC {B : Nat} {a : Sl × Sl × Bool} {c : List Int × List Int × Bool} {b : Nat} (hb : b < B) (vs : List Value) : ∀ (w : World) (o : Nat), HasAr w B a c → HasAr (w.setCells b o vs) B a c := by
  induction vs with
  | nil => intro w o h; exact h
  | cons v r ih => intro w o h; rw [World.setCells]; exact ih _ _ (h.far hb o v)
theorem RowAr.far {w : World} {B : Nat} {z : Sl} {cs : List (List Int × List Int × Bool)} (h : RowAr w B z cs) {b : Nat} (hb : b < B) (j : Nat) (v : Value) : RowAr (w.setCell ⟨b, j, none⟩ v) B z cs := by
  obtain ⟨l, h1, h2, h3⟩ := h
  exact ⟨l, h1.far hb j v, h2, fun i x c hx hc => (h3 i x c hx hc).far hb j v⟩
theorem RowAr.farR {w : World} {B : Nat} {z : Sl} {cs : List (List Int × List Int × Bool)} (h : RowAr w B z cs) {b : Nat} (hb : b < B) (ds : Array Value) : RowAr (w.setRow b ds) B z cs := by
  obtain ⟨l, h1, h2, h3⟩ := h
  exact ⟨l, h1.farR hb ds, h2, fun i x c hx hc => (h3 i x c hx hc).farR hb ds⟩
theorem row_nilA (w : World) (B : Nat) : RowAr w B .no [] := ⟨[], row_nil _ _ _ _, rfl, fun i x c hx => by simp at hx⟩
theorem Way.turn {w0 w : World} {l : List (Sl × Sl × Bool)} {k : Nat} (h : Way w0 w encAr 3 l k) (x : Sl × Sl × Bool) : Way w0 w encAr 3 (l.set k x) k :=
  ⟨h.f, h.s, by rw [List.length_set]; exact h.t, fun i y hi hy => h.d i y hi (by rw [List.getElem?_set_ne (by omega)] at hy; exact hy)⟩
/-- Arms under way. -/
def WayA (w0 w : World) (cs : List (List Int × List Int × Bool)) (k : Nat) : Prop :=
  ∃ l, l.length = cs.length ∧ Way w0 w encAr 3 l k ∧ ∀ (i : Nat) x c, i < k → l[i]? = some x → cs[i]? = some c → HasAr w (w0.heap.size + 1) x c
theorem WayA.on {w0 w w' : World} {cs : List (List Int × List Int × Bool)} {k : Nat} (h : WayA w0 w cs k) (b : Bl w w') : WayA w0 w' cs k := by
  obtain ⟨l, h1, h2, h3⟩ := h
  exact ⟨l, h1, h2.on b, fun i x c hi hx hc => (h3 i x c hi hx hc).on b⟩
theorem WayA.put {w0 w : World} {cs : List (List Int × List Int × Bool)} {k : Nat} (h : WayA w0 w cs k) {x : Sl × Sl × Bool} {c : List Int × List Int × Bool} (hc : cs[k]? = some c) (hx : HasAr w (w0.heap.size + 1) x c) : WayA w0 (w.setCells w0.heap.size (k * 3) (encAr x)) cs (k + 1) := by
  obtain ⟨l, h1, h2, h3⟩ := h
  have hk : k < l.length := by rw [h1]; exact (List.getElem?_eq_some_iff.1 hc).1
  refine ⟨l.set k x, by rw [List.length_set]; exact h1, (h2.turn x).put (by rw [List.getElem?_set_self hk]) rfl (fun _ => rfl), fun i y d hi hy hd => ?_⟩
  refine HasAr.farC (by omega) _ _ _ ?_
  by_cases he : i = k
  · subst he
    rw [List.getElem?_set_self hk] at hy
    injection hy with hy
    rw [hc] at hd
    injection hd with hd
    subst hy hd
    exact hx
  · rw [List.getElem?_set_ne (by omega)] at hy
    exact h3 i y d (by omega) hy hd
theorem copiesAr (v : Sl) (cs : List (List Int × List Int × Bool)) (w : World) (h : RowAr w 0 v cs) (hl : cs.length ≤ 1048576) (ho : ∀ c ∈ cs, arOk c) : Calls Try.prog 51 #[.slice v.p v.n v.c, .func (.func 52) #[] #[]] w fun e w' => ∃ u : Sl, e = .returned (.slice u.p u.n u.c) ∧ Bl w w' ∧ RowAr w' w.heap.size u cs := by
  obtain ⟨l, ⟨hn, hc⟩, hlen, hA⟩ := h
  obtain ⟨p, n, cp⟩ := v
  simp only at hn hc ⊢
  subst hn
  by_cases h0 : l = []
  · subst h0
    obtain rfl : cs = [] := by simpa using hlen.symm
    clear hc hl hA ho
    go_enter Try.func51, Try.ntmps51
    go_wp2_with fail
    go_ret
    exact ⟨.no, rfl, Below.refl _ _, row_nilA _ _⟩
  · obtain ⟨g, o, rfl, _, hg, hr, _⟩ := hc h0
    obtain ⟨i0, hi, hz0, hz1, hz2⟩ := info_row infoAr
    obtain ⟨m, hm⟩ : ∃ m, l.length = m := ⟨_, rfl⟩
    have hm0 : ((m : Int) == 0) = false := by
      rw [beq_eq_false_iff_ne]
      intro e
      apply h0
      exact List.length_eq_zero_iff.1 (by omega)
    have HR := Lib.hid (And.intro hg (And.intro hr (And.intro hA ho)))
    rw [← hlen, hm] at hl
    have hS := arm_any
    rw [hm] at hlen ⊢
    have HM := Lib.hid (And.intro hm hlen)
    clear h0 hm hg hr hc hA ho hlen
    go_enter Try.func51, Try.ntmps51
    go_wp2_with (refine wpList_make_full _ rfl _ _ 40 rfl w.heap.size 57 i0 _ 3 Try.underlying40 hi hz0 hz1 .i64 .i64 _ _ m rfl rfl rfl rfl (by rw [hz2]; omega) (by unfold maxLen; omega) (Nat.le_refl _) ?_; intro w1 hown hgr; have HW := Lib.hid (show WayA w w1 cs 0 from ⟨l, HM.out.1.trans HM.out.2, Way.start (enc := encAr) (l := l) (v := .nilIface) (by rw [HM.out.1]; exact hown) hgr, fun i x c hi => by omega⟩); clear hown hgr)
    go_loopw [16] (fun s wr => ∃ k : Nat, k ≤ m ∧ s = .int .i64 k ∧ WayA w wr cs k) (fun s _ => m - (intOf s).toNat)
    case atStart => exact ⟨0, Nat.zero_le _, rfl, HW.out⟩
    case round =>
      obtain ⟨k, hk, rfl, hW⟩ := hrel
      have HK := Lib.hid hW
      clear hW HW
      by_cases hlt : k < m
      · obtain ⟨x, hx⟩ : ∃ x, l[k]? = some x := ⟨_, List.getElem?_eq_getElem (by rw [HM.out.1]; exact hlt)⟩
        obtain ⟨c, hc⟩ : ∃ c, cs[k]? = some c := ⟨_, List.getElem?_eq_getElem (by rw [← HM.out.2]; exact hlt)⟩
        have hf : Bl w wr := by obtain ⟨_, _, h2, _⟩ := HK.out; exact h2.f
        have hx0 := (HR.out.2.2.1 k x c hx hc).on hf
        have hco := HR.out.2.2.2 c (List.mem_of_getElem? hc)
        have HX := Lib.hid hc
        have hrd : wr.rangeAt g (o + k * 3) #[.slice x.1.p x.1.n x.1.c, .slice x.2.1.p x.2.1.n x.2.1.c, .bool x.2.2].toList := fun j u hu => (hf.cell (p := ⟨g, _, none⟩) HR.out.1).trans (HR.out.2.1 k x hx j u hu)
        have hth : ∀ w3, WayA w w3 cs k → w3.there w.heap.size (k * 3) 3 := fun w3 h3 j hj => by
          obtain ⟨l3, h4, h5, _⟩ := h3
          have h1 : (k + 1) * 3 ≤ l3.length * 3 := Nat.mul_le_mul_right 3 (by rw [h4, ← HM.out.2]; exact hlt)
          have := h5.t (k * 3 + j) (by omega)
          simpa using this
        have HS := Lib.hid (fun w3 (k3 : Bl wr w3) => hS x c w3 (hx0.on k3) hco)
        clear hx hc hx0 hco hS hf
        go_wp2_with (first | (refine wpList_load_mid rfl 57 _ rfl g (o + k * 3) rfl #[.slice x.1.p x.1.n x.1.c, .slice x.2.1.p x.2.1.n x.2.1.c, .bool x.2.2].toList _ hrd Try.underlying57 rfl sizeAr ?_) | (refine wpList_store_row rfl 57 _ _ rfl wr.heap.size #[.slice x.1.p x.1.n x.1.c, .slice x.2.1.p x.2.1.n x.2.1.c, .bool x.2.2] rfl rfl 57 _ (heap_alloc_new _ _) sizeAr rfl (by simp [Value.oneCell']) ?_; rw [World.setRow_alloc_new]))
        refine (HS.out _ (bl_new _ _)).mono ?_
        rintro e w2 ⟨b, rfl, k2, hb⟩
        have HK2 := Lib.hid (And.intro ((HK.out.on (bl_new _ _)).on k2) (hb.low (B' := w.heap.size + 1) (by obtain ⟨_, _, h2, _⟩ := HK.out; have := h2.s; simp; omega)))
        have hth := hth _ HK2.out.1
        clear k2 hrd HK HR hb HS
        obtain ⟨b1, b2, b3⟩ := b
        simp only at hth HK2 ⊢
        go_wp2_with (first | (refine wpList_store_mid rfl 57 _ _ rfl w.heap.size (k * 3) #[.slice b1.p b1.n b1.c, .slice b2.p b2.n b2.c, .bool b3] rfl rfl hth sizeAr (by simp [Value.oneCell']) ?_) | fail)
        have HP := Lib.hid (HK2.out.1.put HX.out HK2.out.2)
        clear HK2 HX
        go_roundw
        case rel =>
          have hp := HP.out
          unfold encAr at hp
          exact ⟨k + 1, by omega, by simp, hp⟩
        case measure => simp [intOf]; omega
      · obtain rfl : k = m := by omega
        clear HR hS hi hz0 hz1 hz2
        go_wp2_with fail
        go_ret
        obtain ⟨l3, h4, h5, h6⟩ := HK.out
        obtain rfl : k = l3.length := by rw [h4, ← HM.out.2]
        exact ⟨_, rfl, h5.f, l3, h5.row, h4, fun i x c hx hc => (h6 i x c (List.getElem?_eq_some_iff.1 hx).1 hx hc).low (by omega)⟩
end Go.Proofs.Ytepfknfadpkigaa
