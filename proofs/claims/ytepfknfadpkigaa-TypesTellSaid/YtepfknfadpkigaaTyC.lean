/- Package types: lists are copied. -/
import Derived.Test.YtepfknfadpkigaaTyB
import Derived.OwnWalk
namespace Go.Proofs.Ytepfknfadpkigaa
open Go.RowKit
set_option maxHeartbeats 1000000
set_option maxRecDepth 100000
set_option linter.unusedVariables false
set_option linter.unusedSimpArgs false

/-- A slice of elements, each in so many cells. -/
structure Row {α : Type} (w : World) (B : Nat) (v : Sl) (enc : α → List Value) (st : Nat) (l : List α) : Prop where
  n : v.n = l.length
  c : l ≠ [] → ∃ g o, v.p = some ⟨g, o, none⟩ ∧ B ≤ g ∧ g < w.heap.size ∧ (∀ i x, l[i]? = some x → w.rangeAt g (o + i * st) (enc x)) ∧ (0 < B → ∀ j, j < l.length * st → w.frozen? ⟨g, o + j, none⟩ = false)
theorem Row.on {α : Type} {w w' : World} {B : Nat} {v : Sl} {enc : α → List Value} {st : Nat} {l : List α} (h : Row w B v enc st l) (k : Bl w w') : Row w' B v enc st l :=
  ⟨h.n, fun hl => by
    obtain ⟨g, o, h1, h2, h3, h4, h5⟩ := h.c hl
    exact ⟨g, o, h1, h2, Nat.lt_of_lt_of_le h3 k.size, fun i x hx j u hu => (k.cell (p := ⟨g, _, none⟩) h3).trans (h4 i x hx j u hu), fun hB j hj => (World.frozen?_of_block (a := ⟨g, _, none⟩) (k.block g h3)).trans (h5 hB j hj)⟩⟩
theorem Row.low {α : Type} {w : World} {B B' : Nat} {v : Sl} {enc : α → List Value} {st : Nat} {l : List α} (h : Row w B v enc st l) (hb : B' ≤ B) : Row w B' v enc st l :=
  ⟨h.n, fun hl => by
    obtain ⟨g, o, h1, h2, h3, h4, h5⟩ := h.c hl
    exact ⟨g, o, h1, Nat.le_trans hb h2, h3, h4, fun hB => h5 (Nat.lt_of_lt_of_le hB hb)⟩⟩
theorem row_nil {α : Type} (w : World) (B : Nat) (enc : α → List Value) (st : Nat) : Row w B .no enc st [] := ⟨rfl, fun h => absurd rfl h⟩
/-- A row of a size under way: so many are done. -/
structure Way {α : Type} (w0 w : World) (enc : α → List Value) (st : Nat) (l : List α) (k : Nat) : Prop where
  f : Bl w0 w
  s : w0.heap.size < w.heap.size
  t : w.there w0.heap.size 0 (l.length * st)
  d : ∀ i x, i < k → l[i]? = some x → w.rangeAt w0.heap.size (i * st) (enc x)
theorem Way.start {α : Type} {w0 w : World} {enc : α → List Value} {st : Nat} {l : List α} {e : TypeId} {v : Value} {xs : List Value} (h : w.ownsRow w0.heap.size e st (.slice (some ⟨w0.heap.size, 0, none⟩) l.length l.length) l.length xs) (hg : w0.grownBy w none) : Way w0 w enc st l 0 := by
  obtain ⟨_, h2⟩ := h
  rcases h2 with ⟨h2, _⟩ | ⟨g, cap, cur, e1, _, e3, _, _, e6, _⟩
  · cases h2
  · injection e1 with e1 e2 e4
    injection e1 with e1
    injection e1 with e1
    subst e1 e4
    have hlt : w0.heap.size < w.heap.size := (Array.getElem?_eq_some_iff.1 e3).1
    refine ⟨⟨hg.os, hg.tape, hg.output, hg.size, fun k hk => hg.block k hk (by simp)⟩, hlt, fun j hj => ?_, fun i x hi => by omega⟩
    simp only [Nat.zero_add]
    have hj2 : j < cur.size := by omega
    constructor
    · rw [cell_of_row _ _ _ _ _ _ e3, Array.getElem?_eq_getElem hj2]; rfl
    · simp [World.frozen?, e3]
theorem Way.on {α : Type} {w0 w w' : World} {enc : α → List Value} {st : Nat} {l : List α} {k : Nat} (h : Way w0 w enc st l k) (b : Bl w w') : Way w0 w' enc st l k := by
  have hb : ∀ j : Nat, w'.heap[w0.heap.size]? = w.heap[w0.heap.size]? := fun _ => b.block _ h.s
  refine ⟨h.f.on b, Nat.lt_of_lt_of_le h.s b.size, fun j hj => ?_, fun i x hi hx j u hu => (World.cell?_of_block (a := ⟨_, _, none⟩) (hb 0)).trans (h.d i x hi hx j u hu)⟩
  have := h.t j hj
  have e1 : w'.cell? ⟨w0.heap.size, 0 + j, none⟩ = w.cell? ⟨w0.heap.size, 0 + j, none⟩ := World.cell?_of_block (hb 0)
  have e2 : w'.frozen? ⟨w0.heap.size, 0 + j, none⟩ = w.frozen? ⟨w0.heap.size, 0 + j, none⟩ := World.frozen?_of_block (hb 0)
  exact ⟨by rw [e1]; exact this.1, by rw [e2]; exact this.2⟩
theorem below_cells {w : World} {B b : Nat} (hB : B ≤ b) (o : Nat) (vs : List Value) : Below B w (w.setCells b o vs) := by
  induction vs generalizing w o with
  | nil => exact Below.refl _ _
  | cons v r ih =>
    rw [World.setCells]
    exact ((Below.refl B w).setCell (by exact hB) _).trans (ih (o + 1))
theorem size_cells (w : World) (b o : Nat) (vs : List Value) : (w.setCells b o vs).heap.size = w.heap.size := by
  induction vs generalizing w o with
  | nil => rfl
  | cons v r ih => rw [World.setCells, ih]; simp
theorem Way.put {α : Type} {w0 w : World} {enc : α → List Value} {st : Nat} {l : List α} {k : Nat} (h : Way w0 w enc st l k) {x : α} (hk : l[k]? = some x) (hs : (enc x).length = st) (hall : ∀ y, (enc y).length = st) : Way w0 (w.setCells w0.heap.size (k * st) (enc x)) enc st l (k + 1) := by
  have hlt : k < l.length := (List.getElem?_eq_some_iff.1 hk).1
  have hm : (k + 1) * st ≤ l.length * st := Nat.mul_le_mul_right st hlt
  have hm2 : (k + 1) * st = k * st + st := Nat.succ_mul k st
  have ht : w.there w0.heap.size (k * st) (enc x).length := fun j hj => by
    have := h.t (k * st + j) (by omega)
    simpa using this
  refine ⟨h.f.trans (below_cells (Nat.le_refl _) _ _), by rw [show (w.setCells w0.heap.size (k * st) (enc x)).heap.size = w.heap.size from size_cells _ _ _ _]; exact h.s, World.there_setCells h.t _ _ _, fun i y hi hy => ?_⟩
  by_cases he : i = k
  · subst he
    rw [hk] at hy
    injection hy with hy
    subst hy
    exact World.rangeAt_setCells_same _ _ _ _ ht
  · have hm3 : (i + 1) * st ≤ k * st := Nat.mul_le_mul_right st (by omega)
    have hm4 : (i + 1) * st = i * st + st := Nat.succ_mul i st
    exact World.rangeAt_setCells_apart (h.d i y (by omega) hy) _ _ _ (.inr (.inl (by rw [hall]; omega)))
theorem Way.row {α : Type} {w0 w : World} {enc : α → List Value} {st : Nat} {l : List α} (h : Way w0 w enc st l l.length) : Row w w0.heap.size ⟨some ⟨w0.heap.size, 0, none⟩, l.length, l.length⟩ enc st l :=
  ⟨rfl, fun _ => ⟨w0.heap.size, 0, rfl, Nat.le_refl _, h.s, fun i x hx => by rw [Nat.zero_add]; exact h.d i x (List.getElem?_eq_some_iff.1 hx).1 hx, fun _ j hj => (h.t j hj).2⟩⟩
theorem info_row {t : TypeId} {z : Value} {s b : Nat} (h : (Try.prog.info? t).map (fun i => (i.zero, i.size, i.bytes)) = some (some z, s, b)) : ∃ i, Try.prog.info? t = some i ∧ i.zero = some z ∧ i.size = s ∧ i.bytes = b := by
  cases hi : Try.prog.info? t with
  | none => rw [hi] at h; cases h
  | some i =>
    rw [hi] at h
    simp only [Option.map_some, Option.some.injEq, Prod.mk.injEq] at h
    exact ⟨i, rfl, h.1, h.2.1, h.2.2⟩
def encPa (e : Bool × Int) : List Value := [.bool e.1, .int .i64 e.2]
theorem encPa_len (e : Bool × Int) : (encPa e).length = 2 := rfl
theorem infoPa : (Try.prog.info? 65).map (fun i => (i.zero, i.size, i.bytes)) = some (some (.agg #[.bool false, .int .i64 0]), 2, 16) := by kernel_rfl
theorem sizePa : (Try.prog.info? 65).map (·.size) = some 2 := by kernel_rfl
theorem samePa (x : Bool × Int) (w : World) : Calls Try.prog 54 #[.agg #[.bool x.1, .int .i64 x.2]] w fun e w' => e = .returned (.agg #[.bool x.1, .int .i64 x.2]) ∧ Bl w w' := by
  go_enter Try.func54, Try.ntmps54
  go_wp2_with fail
  refine bodyPost_ret (v := .agg #[.bool x.1, .int .i64 x.2]) (by simp [results, Try.results54, go_sem]) rfl ⟨rfl, ?_⟩
  repeat (first | exact Below.refl _ _ | assumption | refine Below.alloc ?_ (by simp <;> omega) _ | refine Below.setCell ?_ (by simp <;> omega) _)
theorem copiesPa (v : Sl) (l : List (Bool × Int)) (w : World) (h : Row w 0 v encPa 2 l) (hl : l.length ≤ 1048576) : Calls Try.prog 53 #[.slice v.p v.n v.c, .func (.func 54) #[] #[]] w fun e w' => ∃ u : Sl, e = .returned (.slice u.p u.n u.c) ∧ Bl w w' ∧ Row w' w.heap.size u encPa 2 l := by
  obtain ⟨p, n, c⟩ := v
  obtain ⟨hn, hc⟩ := h
  simp only at hn hc ⊢
  subst hn
  by_cases h0 : l = []
  · subst h0
    clear hc hl
    go_enter Try.func53, Try.ntmps53
    go_wp2_with fail
    go_ret
    exact ⟨.no, rfl, Below.refl _ _, row_nil _ _ _ _⟩
  · obtain ⟨g, o, rfl, _, hg, hr, _⟩ := hc h0
    obtain ⟨i0, hi, hz0, hz1, hz2⟩ := info_row infoPa
    obtain ⟨m, hm⟩ : ∃ m, l.length = m := ⟨_, rfl⟩
    have hm0 : ((m : Int) == 0) = false := by
      rw [beq_eq_false_iff_ne]
      intro e
      apply h0
      exact List.length_eq_zero_iff.1 (by omega)
    have HR := Lib.hid (And.intro hg hr)
    rw [hm] at hl
    have HM := Lib.hid hm
    have hS := samePa
    rw [hm]
    clear h0 hm hg hr hc
    go_enter Try.func53, Try.ntmps53
    go_wp2_with (refine wpList_make_full _ rfl _ _ 41 rfl w.heap.size 65 i0 _ 2 Try.underlying41 hi hz0 hz1 .i64 .i64 _ _ m rfl rfl rfl rfl (by rw [hz2]; omega) (by unfold maxLen; omega) (Nat.le_refl _) ?_; intro w1 hown hgr; have HW := Lib.hid (Way.start (enc := encPa) (l := l) (v := .nilIface) (by rw [HM.out]; exact hown) hgr); clear hown hgr)
    go_loopw [16] (fun s wr => ∃ k : Nat, k ≤ m ∧ s = .int .i64 k ∧ Way w wr encPa 2 l k) (fun s _ => m - (intOf s).toNat)
    case atStart => exact ⟨0, Nat.zero_le _, rfl, HW.out⟩
    case round =>
      obtain ⟨k, hk, rfl, hW⟩ := hrel
      have HK := Lib.hid hW
      clear hW HW
      by_cases hlt : k < m
      · obtain ⟨x, hx⟩ : ∃ x, l[k]? = some x := ⟨_, List.getElem?_eq_getElem (by rw [HM.out]; exact hlt)⟩
        have HX := Lib.hid hx
        have hrd : wr.rangeAt g (o + k * 2) #[.bool x.1, .int .i64 x.2].toList := fun j u hu => (HK.out.f.cell (p := ⟨g, _, none⟩) HR.out.1).trans (HR.out.2 k x hx j u hu)
        have hsz := HK.out.s
        clear hx
        have hth : ∀ w3, Way w w3 encPa 2 l k → w3.there w.heap.size (k * 2) 2 := fun w3 h3 j hj => by
          have h1 : (k + 1) * 2 ≤ l.length * 2 := Nat.mul_le_mul_right 2 (by rw [HM.out]; exact hlt)
          have := h3.t (k * 2 + j) (by omega)
          simpa using this
        go_wp2_with (first | (refine wpList_load_mid rfl 65 _ rfl g (o + k * 2) rfl #[.bool x.1, .int .i64 x.2].toList _ hrd Try.underlying65 rfl sizePa ?_) | fail)
        refine (hS x _).mono ?_
        rintro e w2 ⟨rfl, k2⟩
        have HK2 := Lib.hid ((HK.out.on (bl_new _ _)).on k2)
        have hth := hth _ HK2.out
        clear k2 hrd HK HR
        go_wp2_with (first | (refine wpList_store_mid rfl 65 _ _ rfl w.heap.size (k * 2) #[.bool x.1, .int .i64 x.2] rfl rfl hth sizePa (by simp [Value.oneCell']) ?_) | fail)
        go_roundw
        case rel => exact ⟨k + 1, by omega, by simp, HK2.out.put HX.out rfl (fun _ => rfl)⟩
        case measure => simp [intOf]; omega
      · obtain rfl : k = m := by omega
        have HRow := Lib.hid (show Way w wr encPa 2 l l.length from by rw [HM.out]; exact HK.out)
        clear HK HR hS hi hz0 hz1 hz2
        go_wp2_with fail
        go_ret
        have hrow := HRow.out.row
        rw [HM.out] at hrow
        exact ⟨_, rfl, HRow.out.f, hrow⟩
def encFi (e : ByteArray × Int × Int) : List Value := [.string e.1, .int .i64 e.2.1, .int .i64 e.2.2]
theorem encFi_len (e : ByteArray × Int × Int) : (encFi e).length = 3 := rfl
theorem infoFi : (Try.prog.info? 54).map (fun i => (i.zero, i.size, i.bytes)) = some (some (.agg #[.string ⟨#[]⟩, .int .i64 0, .int .i64 0]), 3, 32) := by kernel_rfl
theorem sizeFi : (Try.prog.info? 54).map (·.size) = some 3 := by kernel_rfl
theorem sameFi (x : ByteArray × Int × Int) (w : World) : Calls Try.prog 50 #[.agg #[.string x.1, .int .i64 x.2.1, .int .i64 x.2.2]] w fun e w' => e = .returned (.agg #[.string x.1, .int .i64 x.2.1, .int .i64 x.2.2]) ∧ Bl w w' := by
  go_enter Try.func50, Try.ntmps50
  go_wp2_with fail
  refine bodyPost_ret (v := .agg #[.string x.1, .int .i64 x.2.1, .int .i64 x.2.2]) (by simp [results, Try.results50, go_sem]) rfl ⟨rfl, ?_⟩
  repeat (first | exact Below.refl _ _ | assumption | refine Below.alloc ?_ (by simp <;> omega) _ | refine Below.setCell ?_ (by simp <;> omega) _)
theorem copiesFi (v : Sl) (l : List (ByteArray × Int × Int)) (w : World) (h : Row w 0 v encFi 3 l) (hl : l.length ≤ 1048576) : Calls Try.prog 49 #[.slice v.p v.n v.c, .func (.func 50) #[] #[]] w fun e w' => ∃ u : Sl, e = .returned (.slice u.p u.n u.c) ∧ Bl w w' ∧ Row w' w.heap.size u encFi 3 l := by
  obtain ⟨p, n, c⟩ := v
  obtain ⟨hn, hc⟩ := h
  simp only at hn hc ⊢
  subst hn
  by_cases h0 : l = []
  · subst h0
    clear hc hl
    go_enter Try.func49, Try.ntmps49
    go_wp2_with fail
    go_ret
    exact ⟨.no, rfl, Below.refl _ _, row_nil _ _ _ _⟩
  · obtain ⟨g, o, rfl, _, hg, hr, _⟩ := hc h0
    obtain ⟨i0, hi, hz0, hz1, hz2⟩ := info_row infoFi
    obtain ⟨m, hm⟩ : ∃ m, l.length = m := ⟨_, rfl⟩
    have hm0 : ((m : Int) == 0) = false := by
      rw [beq_eq_false_iff_ne]
      intro e
      apply h0
      exact List.length_eq_zero_iff.1 (by omega)
    have HR := Lib.hid (And.intro hg hr)
    rw [hm] at hl
    have HM := Lib.hid hm
    have hS := sameFi
    rw [hm]
    clear h0 hm hg hr hc
    go_enter Try.func49, Try.ntmps49
    go_wp2_with (refine wpList_make_full _ rfl _ _ 39 rfl w.heap.size 54 i0 _ 3 Try.underlying39 hi hz0 hz1 .i64 .i64 _ _ m rfl rfl rfl rfl (by rw [hz2]; omega) (by unfold maxLen; omega) (Nat.le_refl _) ?_; intro w1 hown hgr; have HW := Lib.hid (Way.start (enc := encFi) (l := l) (v := .nilIface) (by rw [HM.out]; exact hown) hgr); clear hown hgr)
    go_loopw [16] (fun s wr => ∃ k : Nat, k ≤ m ∧ s = .int .i64 k ∧ Way w wr encFi 3 l k) (fun s _ => m - (intOf s).toNat)
    case atStart => exact ⟨0, Nat.zero_le _, rfl, HW.out⟩
    case round =>
      obtain ⟨k, hk, rfl, hW⟩ := hrel
      have HK := Lib.hid hW
      clear hW HW
      by_cases hlt : k < m
      · obtain ⟨x, hx⟩ : ∃ x, l[k]? = some x := ⟨_, List.getElem?_eq_getElem (by rw [HM.out]; exact hlt)⟩
        have HX := Lib.hid hx
        have hrd : wr.rangeAt g (o + k * 3) #[.string x.1, .int .i64 x.2.1, .int .i64 x.2.2].toList := fun j u hu => (HK.out.f.cell (p := ⟨g, _, none⟩) HR.out.1).trans (HR.out.2 k x hx j u hu)
        have hsz := HK.out.s
        clear hx
        have hth : ∀ w3, Way w w3 encFi 3 l k → w3.there w.heap.size (k * 3) 3 := fun w3 h3 j hj => by
          have h1 : (k + 1) * 3 ≤ l.length * 3 := Nat.mul_le_mul_right 3 (by rw [HM.out]; exact hlt)
          have := h3.t (k * 3 + j) (by omega)
          simpa using this
        go_wp2_with (first | (refine wpList_load_mid rfl 54 _ rfl g (o + k * 3) rfl #[.string x.1, .int .i64 x.2.1, .int .i64 x.2.2].toList _ hrd Try.underlying54 rfl sizeFi ?_) | fail)
        refine (hS x _).mono ?_
        rintro e w2 ⟨rfl, k2⟩
        have HK2 := Lib.hid ((HK.out.on (bl_new _ _)).on k2)
        have hth := hth _ HK2.out
        clear k2 hrd HK HR
        go_wp2_with (first | (refine wpList_store_mid rfl 54 _ _ rfl w.heap.size (k * 3) #[.string x.1, .int .i64 x.2.1, .int .i64 x.2.2] rfl rfl hth sizeFi (by simp [Value.oneCell']) ?_) | fail)
        go_roundw
        case rel => exact ⟨k + 1, by omega, by simp, HK2.out.put HX.out rfl (fun _ => rfl)⟩
        case measure => simp [intOf]; omega
      · obtain rfl : k = m := by omega
        have HRow := Lib.hid (show Way w wr encFi 3 l l.length from by rw [HM.out]; exact HK.out)
        clear HK HR hS hi hz0 hz1 hz2
        go_wp2_with fail
        go_ret
        have hrow := HRow.out.row
        rw [HM.out] at hrow
        exact ⟨_, rfl, HRow.out.f, hrow⟩
def encSt (e : ByteArray) : List Value := [.string e]
theorem encSt_len (e : ByteArray) : (encSt e).length = 1 := rfl
theorem infoSt : (Try.prog.info? 9).map (fun i => (i.zero, i.size, i.bytes)) = some (some (.string ⟨#[]⟩), 1, 16) := by kernel_rfl
theorem sizeSt : (Try.prog.info? 9).map (·.size) = some 1 := by kernel_rfl
theorem sameSt (x : ByteArray) (w : World) : Calls Try.prog 48 #[.string x] w fun e w' => e = .returned (.string x) ∧ Bl w w' := by
  go_enter Try.func48, Try.ntmps48
  go_wp2_with fail
  go_ret
  exact ⟨rfl, Below.refl _ _⟩
theorem copiesSt (v : Sl) (l : List (ByteArray)) (w : World) (h : Row w 0 v encSt 1 l) (hl : l.length ≤ 1048576) : Calls Try.prog 47 #[.slice v.p v.n v.c, .func (.func 48) #[] #[]] w fun e w' => ∃ u : Sl, e = .returned (.slice u.p u.n u.c) ∧ Bl w w' ∧ Row w' w.heap.size u encSt 1 l := by
  obtain ⟨p, n, c⟩ := v
  obtain ⟨hn, hc⟩ := h
  simp only at hn hc ⊢
  subst hn
  by_cases h0 : l = []
  · subst h0
    clear hc hl
    go_enter Try.func47, Try.ntmps47
    go_wp2_with fail
    go_ret
    exact ⟨.no, rfl, Below.refl _ _, row_nil _ _ _ _⟩
  · obtain ⟨g, o, rfl, _, hg, hr, _⟩ := hc h0
    obtain ⟨i0, hi, hz0, hz1, hz2⟩ := info_row infoSt
    obtain ⟨m, hm⟩ : ∃ m, l.length = m := ⟨_, rfl⟩
    have hm0 : ((m : Int) == 0) = false := by
      rw [beq_eq_false_iff_ne]
      intro e
      apply h0
      exact List.length_eq_zero_iff.1 (by omega)
    have HR := Lib.hid (And.intro hg hr)
    rw [hm] at hl
    have HM := Lib.hid hm
    have hS := sameSt
    rw [hm]
    clear h0 hm hg hr hc
    go_enter Try.func47, Try.ntmps47
    go_wp2_with (refine wpList_make_full _ rfl _ _ 38 rfl w.heap.size 9 i0 _ 1 Try.underlying38 hi hz0 hz1 .i64 .i64 _ _ m rfl rfl rfl rfl (by rw [hz2]; omega) (by unfold maxLen; omega) (Nat.le_refl _) ?_; intro w1 hown hgr; have HW := Lib.hid (Way.start (enc := encSt) (l := l) (v := .nilIface) (by rw [HM.out]; exact hown) hgr); clear hown hgr)
    go_loopw [16] (fun s wr => ∃ k : Nat, k ≤ m ∧ s = .int .i64 k ∧ Way w wr encSt 1 l k) (fun s _ => m - (intOf s).toNat)
    case atStart => exact ⟨0, Nat.zero_le _, rfl, HW.out⟩
    case round =>
      obtain ⟨k, hk, rfl, hW⟩ := hrel
      have HK := Lib.hid hW
      clear hW HW
      by_cases hlt : k < m
      · obtain ⟨x, hx⟩ : ∃ x, l[k]? = some x := ⟨_, List.getElem?_eq_getElem (by rw [HM.out]; exact hlt)⟩
        have HX := Lib.hid hx
        have hrd : wr.rangeAt g (o + k * 1) [.string x] := fun j u hu => (HK.out.f.cell (p := ⟨g, _, none⟩) HR.out.1).trans (HR.out.2 k x hx j u hu)
        have hsz := HK.out.s
        clear hx
        have hth : ∀ w3, Way w w3 encSt 1 l k → w3.there w.heap.size (k * 1) 1 := fun w3 h3 j hj => by
          have h1 : (k + 1) * 1 ≤ l.length * 1 := Nat.mul_le_mul_right 1 (by rw [HM.out]; exact hlt)
          have := h3.t (k * 1 + j) (by omega)
          simpa using this
        have hrd := hrd 0 _ rfl
        simp only [Nat.mul_one, Nat.add_zero] at hrd
        go_wp2_with fail
        refine (hS x _).mono ?_
        rintro e w2 ⟨rfl, k2⟩
        have HK2 := Lib.hid (HK.out.on k2)
        have hth := hth _ HK2.out 0 (by omega)
        simp only [Nat.mul_one, Nat.add_zero] at hth
        obtain ⟨hth, hfr⟩ := hth
        obtain ⟨q, hq⟩ := Option.isSome_iff_exists.1 hth
        clear k2 hrd HK HR hth
        go_wp2_with fail
        go_roundw
        case rel => exact ⟨k + 1, by omega, by simp, by have := HK2.out.put HX.out rfl (fun _ => rfl); simpa [World.setCells, encSt] using this⟩
        case measure => simp [intOf]; omega
      · obtain rfl : k = m := by omega
        have HRow := Lib.hid (show Way w wr encSt 1 l l.length from by rw [HM.out]; exact HK.out)
        clear HK HR hS hi hz0 hz1 hz2
        go_wp2_with fail
        go_ret
        have hrow := HRow.out.row
        rw [HM.out] at hrow
        exact ⟨_, rfl, HRow.out.f, hrow⟩
def encIn (e : Int) : List Value := [.int .i64 e]
theorem encIn_len (e : Int) : (encIn e).length = 1 := rfl
theorem infoIn : (Try.prog.info? 2).map (fun i => (i.zero, i.size, i.bytes)) = some (some (.int .i64 0), 1, 8) := by kernel_rfl
theorem sizeIn : (Try.prog.info? 2).map (·.size) = some 1 := by kernel_rfl
theorem sameIn (x : Int) (w : World) : Calls Try.prog 60 #[.int .i64 x] w fun e w' => e = .returned (.int .i64 x) ∧ Bl w w' := by
  go_enter Try.func60, Try.ntmps60
  go_wp2_with fail
  go_ret
  exact ⟨rfl, Below.refl _ _⟩
theorem copiesIn (v : Sl) (l : List (Int)) (w : World) (h : Row w 0 v encIn 1 l) (hl : l.length ≤ 1048576) : Calls Try.prog 59 #[.slice v.p v.n v.c, .func (.func 60) #[] #[]] w fun e w' => ∃ u : Sl, e = .returned (.slice u.p u.n u.c) ∧ Bl w w' ∧ Row w' w.heap.size u encIn 1 l := by
  obtain ⟨p, n, c⟩ := v
  obtain ⟨hn, hc⟩ := h
  simp only at hn hc ⊢
  subst hn
  by_cases h0 : l = []
  · subst h0
    clear hc hl
    go_enter Try.func59, Try.ntmps59
    go_wp2_with fail
    go_ret
    exact ⟨.no, rfl, Below.refl _ _, row_nil _ _ _ _⟩
  · obtain ⟨g, o, rfl, _, hg, hr, _⟩ := hc h0
    obtain ⟨i0, hi, hz0, hz1, hz2⟩ := info_row infoIn
    obtain ⟨m, hm⟩ : ∃ m, l.length = m := ⟨_, rfl⟩
    have hm0 : ((m : Int) == 0) = false := by
      rw [beq_eq_false_iff_ne]
      intro e
      apply h0
      exact List.length_eq_zero_iff.1 (by omega)
    have HR := Lib.hid (And.intro hg hr)
    rw [hm] at hl
    have HM := Lib.hid hm
    have hS := sameIn
    rw [hm]
    clear h0 hm hg hr hc
    go_enter Try.func59, Try.ntmps59
    go_wp2_with (refine wpList_make_full _ rfl _ _ 55 rfl w.heap.size 2 i0 _ 1 Try.underlying55 hi hz0 hz1 .i64 .i64 _ _ m rfl rfl rfl rfl (by rw [hz2]; omega) (by unfold maxLen; omega) (Nat.le_refl _) ?_; intro w1 hown hgr; have HW := Lib.hid (Way.start (enc := encIn) (l := l) (v := .nilIface) (by rw [HM.out]; exact hown) hgr); clear hown hgr)
    go_loopw [16] (fun s wr => ∃ k : Nat, k ≤ m ∧ s = .int .i64 k ∧ Way w wr encIn 1 l k) (fun s _ => m - (intOf s).toNat)
    case atStart => exact ⟨0, Nat.zero_le _, rfl, HW.out⟩
    case round =>
      obtain ⟨k, hk, rfl, hW⟩ := hrel
      have HK := Lib.hid hW
      clear hW HW
      by_cases hlt : k < m
      · obtain ⟨x, hx⟩ : ∃ x, l[k]? = some x := ⟨_, List.getElem?_eq_getElem (by rw [HM.out]; exact hlt)⟩
        have HX := Lib.hid hx
        have hrd : wr.rangeAt g (o + k * 1) [.int .i64 x] := fun j u hu => (HK.out.f.cell (p := ⟨g, _, none⟩) HR.out.1).trans (HR.out.2 k x hx j u hu)
        have hsz := HK.out.s
        clear hx
        have hth : ∀ w3, Way w w3 encIn 1 l k → w3.there w.heap.size (k * 1) 1 := fun w3 h3 j hj => by
          have h1 : (k + 1) * 1 ≤ l.length * 1 := Nat.mul_le_mul_right 1 (by rw [HM.out]; exact hlt)
          have := h3.t (k * 1 + j) (by omega)
          simpa using this
        have hrd := hrd 0 _ rfl
        simp only [Nat.mul_one, Nat.add_zero] at hrd
        go_wp2_with fail
        refine (hS x _).mono ?_
        rintro e w2 ⟨rfl, k2⟩
        have HK2 := Lib.hid (HK.out.on k2)
        have hth := hth _ HK2.out 0 (by omega)
        simp only [Nat.mul_one, Nat.add_zero] at hth
        obtain ⟨hth, hfr⟩ := hth
        obtain ⟨q, hq⟩ := Option.isSome_iff_exists.1 hth
        clear k2 hrd HK HR hth
        go_wp2_with fail
        go_roundw
        case rel => exact ⟨k + 1, by omega, by simp, by have := HK2.out.put HX.out rfl (fun _ => rfl); simpa [World.setCells, encIn] using this⟩
        case measure => simp [intOf]; omega
      · obtain rfl : k = m := by omega
        have HRow := Lib.hid (show Way w wr encIn 1 l l.length from by rw [HM.out]; exact HK.out)
        clear HK HR hS hi hz0 hz1 hz2
        go_wp2_with fail
        go_ret
        have hrow := HRow.out.row
        rw [HM.out] at hrow
        exact ⟨_, rfl, HRow.out.f, hrow⟩
end Go.Proofs.Ytepfknfadpkigaa
