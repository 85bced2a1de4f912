/- The document's row of layer 6: what it reads, and what it goes by. -/
import Derived.Test.YtldecbaaajmmcaaMeH
import Derived.Test.YtldecbaaajmmcaaSaA
namespace Go.Proofs.Ytldecbaaajmmcaa
open Go.RowKit
set_option maxHeartbeats 2000000
set_option maxRecDepth 100000
set_option linter.unusedVariables false
set_option linter.unusedSimpArgs false

/-- What the document's row goes by: the tokens, where they lie, its block and that block's type. -/
structure Rc where
  ts : List TK
  rv : Value
  R : Nat
  B : Nat
  T : TypeId
  hBR : B ≤ R
/-- It stands at place i; b: a token was bad. -/
structure RF (c : Rc) (w : World) (i : Nat) (b : Bool) : Prop where
  rd : w.heap[c.R]? = some (.cells #[c.rv, .int .i64 i, .bool b] c.T (0, 0))
  row : RowAt w c.B c.rv c.ts
  le : i ≤ 16384
  tl : c.ts.length ≤ 16384
  tx : ∀ x ∈ c.ts, x.1.x.length ≤ 65536
theorem RF.lt {c : Rc} {w : World} {i : Nat} {b : Bool} (h : RF c w i b) : c.R < w.heap.size := lt_heap h.rd
theorem RF.c0 {c : Rc} {w : World} {i : Nat} {b : Bool} (h : RF c w i b) : w.cell? ⟨c.R, 0, none⟩ = some c.rv := by rw [Lib.cell_of_heap h.rd]; rfl
theorem RF.c1 {c : Rc} {w : World} {i : Nat} {b : Bool} (h : RF c w i b) : w.cell? ⟨c.R, 1, none⟩ = some (.int .i64 i) := by rw [Lib.cell_of_heap h.rd]; rfl
theorem RF.c2 {c : Rc} {w : World} {i : Nat} {b : Bool} (h : RF c w i b) : w.cell? ⟨c.R, 2, none⟩ = some (.bool b) := by rw [Lib.cell_of_heap h.rd]; rfl
theorem RF.f {c : Rc} {w : World} {i : Nat} {b : Bool} (h : RF c w i b) (k : Nat) : w.frozen? ⟨c.R, k, none⟩ = false := Lib.frozen_of_heap h.rd k
theorem RF.row2 {c : Rc} {w w' : World} {i : Nat} {b : Bool} (h : RF c w i b) (hF : Fr [c.R] w w') : RowAt w' c.B c.rv c.ts := by
  have hB := c.hBR
  have hl := h.lt
  exact h.row.fc (Fc.of_fr hF (B := c.B) (by simp; exact c.hBR) (by omega))
theorem RF.via {c : Rc} {w w' : World} {i j : Nat} {b b' : Bool} (h : RF c w i b) (hF : Fr [c.R] w w') (hrd : w'.heap[c.R]? = some (.cells #[c.rv, .int .i64 j, .bool b'] c.T (0, 0))) (hj : j ≤ 16384) : RF c w' j b' :=
  ⟨hrd, h.row2 hF, hj, h.tl, h.tx⟩
theorem RF.keep {c : Rc} {w w' : World} {i : Nat} {b : Bool} (h : RF c w i b) (hF : Fr [] w w') : RF c w' i b := h.via (hF.mono (by simp)) ((hF.block _ h.lt (by simp)).trans h.rd) h.le
theorem RF.next {c : Rc} {w : World} {i : Nat} {b : Bool} (h : RF c w i b) (hi : i < c.ts.length) : RF c (w.setCell ⟨c.R, 1, none⟩ (.int .i64 ((i : Int) + 1))) (i + 1) b :=
  h.via (Fr.set w c.R 1 _) (by simp [World.setCell, Array.getElem?_modify, h.rd]) (by have := h.tl; omega)
theorem RF.spoil {c : Rc} {w : World} {i : Nat} {b : Bool} (h : RF c w i b) : RF c (w.setCell ⟨c.R, 2, none⟩ (.bool true)) i true :=
  h.via (Fr.set w c.R 2 _) (by simp [World.setCell, Array.getElem?_modify, h.rd]) h.le
/-- Far behind: another world in which the row's block is as in this one. -/
theorem RF.far {c : Rc} {w w4 w5 : World} {i j : Nat} {b b' : Bool} (hX : RF c w4 j b') (h : RF c w i b) (F14 : Fr [c.R] w w4) (F45 : Fr [w.heap.size] w4 w5) : RF c w5 j b' := by
  have hl := h.lt
  have hRn : c.R ∉ [w.heap.size] := by simp; omega
  exact h.via (F14.trans F45 (fun j hj => .inr (by simp at hj; omega))) ((F45.block _ hX.lt hRn).trans hX.rd) hX.le
def isW (t : TK) (s : List UInt8) : Bool := t.1.k == 6 && t.1.x == s
theorem isW_lt {ts : List TK} {i : Nat} {s : List UInt8} (h : isW (tk ts i) s = true) : i < ts.length := by
  rcases Nat.lt_or_ge i ts.length with h1 | h1
  · exact h1
  · rw [tk_ge h1] at h
    simp [isW, zTK] at h
theorem dNow_any (c : Rc) (w : World) (i : Nat) (b : Bool) (h : RF c w i b) :
    Calls Try.prog 32 #[pt c.R] w fun e w' => e = .returned (tkV (tk c.ts i)) ∧ Fr [] w w' := by
  have c0 := h.c0
  have c1 := h.c1
  obtain ⟨q, cap, hrv, hrow⟩ := h.row
  rw [hrv] at c0
  have hle := h.le
  have htl := h.tl
  have hlt := h.lt
  have hsc := fun w a x y m => store_cx (P := Try.prog) w a .f64 x y m
  have FA := Lib.hid (Fr.alloc w (.cells #[.int .u8 0, .complex .f64 0 0, .complex .f64 0 0, .string ⟨#[]⟩, .int .i64 0] 56))
  have A0 := Lib.hid (Fv.new w (.int .u8 0) (.complex .f64 0 0) (.complex .f64 0 0) (.string ⟨#[]⟩) (.int .i64 0) 56 w.heap.size rfl)
  obtain ⟨L, hL⟩ : ∃ L, c.ts.length = L := ⟨_, rfl⟩
  rw [hL] at c0 htl
  have hi0 : (0 : Int) ≤ (i : Int) := by omega
  have hd0 : decide ((0 : Int) ≤ (i : Int)) = true := decide_eq_true hi0
  simp only [pt]
  by_cases hi : i < c.ts.length
  · obtain ⟨g, rfl, hg, hg2, k0, k1, k2, k3, k4⟩ := hrow i _ (tk_lt hi)
    rw [hL] at hi
    have HR : Hid (tkV (tk c.ts i) = .agg #[.int .u8 (tk c.ts i).1.k, posV (tk c.ts i).2.1.1 (tk c.ts i).2.1.2, posV (tk c.ts i).2.2.1 (tk c.ts i).2.2.2, .string ⟨(tk c.ts i).1.x.toArray⟩, .int .i64 (tk c.ts i).1.n]) := Lib.hid rfl
    obtain ⟨x1, y1, e1⟩ := posV_cx (tk c.ts i).2.1.1 (tk c.ts i).2.1.2
    obtain ⟨x2, y2, e2⟩ := posV_cx (tk c.ts i).2.2.1 (tk c.ts i).2.2.2
    rw [e1, e2] at HR
    rw [e1] at k1
    rw [e2] at k2
    have hi1 : (i : Int) < (L : Int) := by omega
    have hd1 : decide ((i : Int) < (L : Int)) = true := decide_eq_true hi1
    generalize tkV (tk c.ts i) = tv at *
    generalize ((tk c.ts i).1.k : Int) = t0 at *
    generalize (⟨(tk c.ts i).1.x.toArray⟩ : ByteArray) = t3 at *
    generalize (tk c.ts i).1.n = t4 at *
    clear hrow hrv hL e1 e2 h
    go_enter Try.func32, Try.ntmps32
    go_wp2_with fail
    go_quiet (fail)
    go_wp2_with fail
    obtain ⟨wS, hwS⟩ : ∃ wS, (w.alloc (.cells #[.int .u8 0, .complex .f64 0 0, .complex .f64 0 0, .string ⟨#[]⟩, .int .i64 0] 56)).drewN nq = wS := ⟨_, rfl⟩
    have FS : Fr [] w wS := by rw [← hwS]; exact FA.out.trans (Fr.drewN _ _) (by simp)
    have AS : Fv wS w.heap.size (.int .u8 0) (.complex .f64 0 0) (.complex .f64 0 0) (.string ⟨#[]⟩) (.int .i64 0) := by
      rw [← hwS]; exact ⟨A0.out.c0, A0.out.c1, A0.out.c2, A0.out.c3, A0.out.c4, A0.out.f0, A0.out.f1, A0.out.f2, A0.out.f3, A0.out.f4⟩
    rw [hwS]
    have HWS := Lib.hid (And.intro FS AS)
    have c0 := FS.cellE c0
    have c1 := FS.cellE c1
    have k0 := FS.cellE k0
    have k1 := FS.cellE k1
    have k2 := FS.cellE k2
    have k3 := FS.cellE k3
    have k4 := FS.cellE k4
    clear hwS FS AS
    go_still_tail 10, (by kernel_rfl)
    change wpList _ _ _ _ _ wS.drew
    have AD := HWS.out.2
    have a0 := AD.c0
    have a1 := AD.c1
    have a2 := AD.c2
    have a3 := AD.c3
    have a4 := AD.c4
    have b0 := AD.f0
    have b1 := AD.f1
    have b2 := AD.f2
    have b3 := AD.f3
    have b4 := AD.f4
    have HAD := Lib.hid AD
    clear AD
    go_wp2_with fail
    have R5 := (((((HAD.out.set0 (.int .u8 t0)).set1 (.complex .f64 x1 y1)).set2 (.complex .f64 x2 y2)).set3 (.string t3)).set4 (.int .i64 t4))
    have r0 := R5.c0
    have r1 := R5.c1
    have r2 := R5.c2
    have r3 := R5.c3
    have r4 := R5.c4
    refine bodyPost_ret (v := .agg #[.int .u8 t0, .complex .f64 x1 y1, .complex .f64 x2 y2, .string t3, .int .i64 t4]) (by simp [results, Try.results32, go_sem, r0, r1, r2, r3, r4]) rfl ?_
    exact ⟨by rw [HR.out], (fr_set5 HWS.out.1 (Nat.le_refl _) _ _ _ _ _).trans (Fr.drew _) (by simp)⟩
  · rw [tk_ge (by omega)]
    rw [hL] at hi
    have hi1 : ¬ (i : Int) < (L : Int) := by omega
    have hd1 : decide ((i : Int) < (L : Int)) = false := decide_eq_false hi1
    have HR : Hid (tkV zTK = .agg #[.int .u8 0, .complex .f64 0 0, .complex .f64 0 0, .string ⟨#[]⟩, .int .i64 0]) := Lib.hid rfl
    generalize tkV zTK = tv at *
    clear hrow hrv hL h
    go_enter Try.func32, Try.ntmps32
    go_wp2_with fail
    go_quiet (fail)
    obtain ⟨wS, hwS⟩ : ∃ wS, (w.alloc (.cells #[.int .u8 0, .complex .f64 0 0, .complex .f64 0 0, .string ⟨#[]⟩, .int .i64 0] 56)).drewN nq = wS := ⟨_, rfl⟩
    have FS : Fr [] w wS := by rw [← hwS]; exact FA.out.trans (Fr.drewN _ _) (by simp)
    have AD : Fv wS w.heap.size (.int .u8 0) (.complex .f64 0 0) (.complex .f64 0 0) (.string ⟨#[]⟩) (.int .i64 0) := by
      rw [← hwS]; exact ⟨A0.out.c0, A0.out.c1, A0.out.c2, A0.out.c3, A0.out.c4, A0.out.f0, A0.out.f1, A0.out.f2, A0.out.f3, A0.out.f4⟩
    rw [hwS]
    have HWS := Lib.hid (And.intro FS AD)
    have a0 := AD.c0
    have a1 := AD.c1
    have a2 := AD.c2
    have a3 := AD.c3
    have a4 := AD.c4
    have b0 := AD.f0
    have b1 := AD.f1
    have b2 := AD.f2
    have b3 := AD.f3
    have b4 := AD.f4
    clear hwS FS AD
    go_wp2_with fail
    have R5 := (((((HWS.out.2.set0 (.int .u8 0)).set1 (.complex .f64 0 0)).set2 (.complex .f64 0 0)).set3 (.string ⟨#[]⟩)).set4 (.int .i64 0))
    have r0 := R5.c0
    have r1 := R5.c1
    have r2 := R5.c2
    have r3 := R5.c3
    have r4 := R5.c4
    refine bodyPost_ret (v := .agg #[.int .u8 0, .complex .f64 0 0, .complex .f64 0 0, .string ⟨#[]⟩, .int .i64 0]) (by simp [results, Try.results32, go_sem, r0, r1, r2, r3, r4]) rfl ?_
    exact ⟨by rw [HR.out], fr_set5 HWS.out.1 (Nat.le_refl _) _ _ _ _ _⟩
theorem dSym_any (c : Rc) (w : World) (i : Nat) (b : Bool) (s : List UInt8) (h : RF c w i b) :
    Calls Try.prog 36 #[pt c.R, .string ⟨s.toArray⟩] w fun e w' => e = .returned (.bool (!b && isS (tk c.ts i) s)) ∧ Fr [] w w' := by
  have hsc := fun w a x y m => store_cx (P := Try.prog) w a .f64 x y m
  have HH := dNow_any c w i b h
  have hq := lits_eq (tk c.ts i).1.x s
  have HI : Hid (isS (tk c.ts i) s = ((tk c.ts i).1.k == 5 && (tk c.ts i).1.x == s)) := Lib.hid rfl
  obtain ⟨x1, y1, e1⟩ := posV_cx (tk c.ts i).2.1.1 (tk c.ts i).2.1.2
  obtain ⟨x2, y2, e2⟩ := posV_cx (tk c.ts i).2.2.1 (tk c.ts i).2.2.2
  unfold tkV at HH
  rw [e1, e2] at HH
  have hk : (((tk c.ts i).1.k : Int) == 5) = ((tk c.ts i).1.k == 5) := by
    by_cases hh : (tk c.ts i).1.k = 5
    · rw [hh]; rfl
    · rw [beq_eq_false_iff_ne.2 hh, beq_eq_false_iff_ne.2 (by omega)]
  rw [HI.out]
  obtain ⟨kb, hkb⟩ : ∃ kb, ((tk c.ts i).1.k == 5) = kb := ⟨_, rfl⟩
  obtain ⟨xb, hxb⟩ : ∃ xb, ((tk c.ts i).1.x == s) = xb := ⟨_, rfl⟩
  rw [hkb] at hk ⊢
  rw [hxb] at hq ⊢
  have HX := Lib.hid h
  clear e1 e2 HI h hkb hxb
  generalize ((tk c.ts i).1.k : Int) = t0 at *
  generalize (⟨(tk c.ts i).1.x.toArray⟩ : ByteArray) = t3 at *
  generalize (tk c.ts i).1.n = t4 at *
  generalize (⟨s.toArray⟩ : ByteArray) = sb at *
  simp only [pt] at HH ⊢
  cases b <;> cases kb <;> cases xb
  all_goals
    go_enter Try.func36, Try.ntmps36
    go_wp2_with fail
    refine HH.mono ?_
    rintro e w2 ⟨rfl, F2⟩
    have c2 := ((HX.out.keep F2).keep (Fr.alloc w2 (.cells #[.int .u8 t0, .complex .f64 x1 y1, .complex .f64 x2 y2, .string t3, .int .i64 t4] 56))).c2
    have H2 := Lib.hid F2
    have hR2 : c.R < w2.heap.size := by have := HX.out.lt; have := F2.size; omega
    clear HH F2
    go_wp2_with fail
    go_ret
    exact ⟨rfl, H2.out.trans (Fr.alloc _ _) (by simp)⟩
theorem dWord_any (c : Rc) (w : World) (i : Nat) (b : Bool) (s : List UInt8) (h : RF c w i b) :
    Calls Try.prog 99 #[pt c.R, .string ⟨s.toArray⟩] w fun e w' => e = .returned (.bool (!b && isW (tk c.ts i) s)) ∧ Fr [] w w' := by
  have hsc := fun w a x y m => store_cx (P := Try.prog) w a .f64 x y m
  have HH := dNow_any c w i b h
  have hq := lits_eq (tk c.ts i).1.x s
  have HI : Hid (isW (tk c.ts i) s = ((tk c.ts i).1.k == 6 && (tk c.ts i).1.x == s)) := Lib.hid rfl
  obtain ⟨x1, y1, e1⟩ := posV_cx (tk c.ts i).2.1.1 (tk c.ts i).2.1.2
  obtain ⟨x2, y2, e2⟩ := posV_cx (tk c.ts i).2.2.1 (tk c.ts i).2.2.2
  unfold tkV at HH
  rw [e1, e2] at HH
  have hk : (((tk c.ts i).1.k : Int) == 6) = ((tk c.ts i).1.k == 6) := by
    by_cases hh : (tk c.ts i).1.k = 6
    · rw [hh]; rfl
    · rw [beq_eq_false_iff_ne.2 hh, beq_eq_false_iff_ne.2 (by omega)]
  rw [HI.out]
  obtain ⟨kb, hkb⟩ : ∃ kb, ((tk c.ts i).1.k == 6) = kb := ⟨_, rfl⟩
  obtain ⟨xb, hxb⟩ : ∃ xb, ((tk c.ts i).1.x == s) = xb := ⟨_, rfl⟩
  rw [hkb] at hk ⊢
  rw [hxb] at hq ⊢
  have HX := Lib.hid h
  clear e1 e2 HI h hkb hxb
  generalize ((tk c.ts i).1.k : Int) = t0 at *
  generalize (⟨(tk c.ts i).1.x.toArray⟩ : ByteArray) = t3 at *
  generalize (tk c.ts i).1.n = t4 at *
  generalize (⟨s.toArray⟩ : ByteArray) = sb at *
  simp only [pt] at HH ⊢
  cases b <;> cases kb <;> cases xb
  all_goals
    go_enter Try.func99, Try.ntmps99
    go_wp2_with fail
    refine HH.mono ?_
    rintro e w2 ⟨rfl, F2⟩
    have c2 := ((HX.out.keep F2).keep (Fr.alloc w2 (.cells #[.int .u8 t0, .complex .f64 x1 y1, .complex .f64 x2 y2, .string t3, .int .i64 t4] 56))).c2
    have H2 := Lib.hid F2
    have hR2 : c.R < w2.heap.size := by have := HX.out.lt; have := F2.size; omega
    clear HH F2
    go_wp2_with fail
    go_ret
    exact ⟨rfl, H2.out.trans (Fr.alloc _ _) (by simp)⟩
theorem dEat_hit (c : Rc) (w : World) (i : Nat) (s : List UInt8) (h : RF c w i false) (hs : isS (tk c.ts i) s = true) :
    Calls Try.prog 35 #[pt c.R, .string ⟨s.toArray⟩] w fun e w' => e = .returned (.bool true) ∧ Fr [c.R] w w' ∧ RF c w' (i + 1) false := by
  have HS := dSym_any c w i false s h
  rw [hs] at HS
  have hle := h.le
  have hw1 : wrap64 ((i : Int) + 1) = (i : Int) + 1 := w64 _ (by omega) (by omega)
  have HT := Lib.hid (And.intro h (isS_lt hs))
  clear h hs
  generalize (⟨s.toArray⟩ : ByteArray) = sb at *
  simp only [pt] at HS ⊢
  go_enter Try.func35, Try.ntmps35
  go_wp2_with fail
  refine HS.mono ?_
  rintro e w2 ⟨rfl, F2⟩
  have X2 := HT.out.1.keep F2
  have c1 := X2.c1
  have f1 := X2.f 1
  have H2 := Lib.hid (And.intro F2 X2)
  clear HS F2 X2
  go_wp2_with fail
  go_ret
  exact ⟨rfl, (H2.out.1.mono (by simp)).trans (Fr.set w2 c.R 1 _) (fun j hj => .inl hj), H2.out.2.next HT.out.2⟩
theorem dEat_miss (c : Rc) (w : World) (i : Nat) (b : Bool) (s : List UInt8) (h : RF c w i b) (hs : (!b && isS (tk c.ts i) s) = false) :
    Calls Try.prog 35 #[pt c.R, .string ⟨s.toArray⟩] w fun e w' => e = .returned (.bool false) ∧ Fr [] w w' := by
  have HS := dSym_any c w i b s h
  rw [hs] at HS
  clear h hs
  generalize (⟨s.toArray⟩ : ByteArray) = sb at *
  simp only [pt] at HS ⊢
  go_enter Try.func35, Try.ntmps35
  go_wp2_with fail
  refine HS.mono ?_
  rintro e w2 ⟨rfl, F2⟩
  have H2 := Lib.hid F2
  clear HS F2
  go_wp2_with fail
  go_ret
  exact ⟨rfl, H2.out⟩
theorem dEatWord_hit (c : Rc) (w : World) (i : Nat) (s : List UInt8) (h : RF c w i false) (hs : isW (tk c.ts i) s = true) :
    Calls Try.prog 89 #[pt c.R, .string ⟨s.toArray⟩] w fun e w' => e = .returned (.bool true) ∧ Fr [c.R] w w' ∧ RF c w' (i + 1) false := by
  have HS := dWord_any c w i false s h
  rw [hs] at HS
  have hle := h.le
  have hw1 : wrap64 ((i : Int) + 1) = (i : Int) + 1 := w64 _ (by omega) (by omega)
  have HT := Lib.hid (And.intro h (isW_lt hs))
  clear h hs
  generalize (⟨s.toArray⟩ : ByteArray) = sb at *
  simp only [pt] at HS ⊢
  go_enter Try.func89, Try.ntmps89
  go_wp2_with fail
  refine HS.mono ?_
  rintro e w2 ⟨rfl, F2⟩
  have X2 := HT.out.1.keep F2
  have c1 := X2.c1
  have f1 := X2.f 1
  have H2 := Lib.hid (And.intro F2 X2)
  clear HS F2 X2
  go_wp2_with fail
  go_ret
  exact ⟨rfl, (H2.out.1.mono (by simp)).trans (Fr.set w2 c.R 1 _) (fun j hj => .inl hj), H2.out.2.next HT.out.2⟩
theorem dEatWord_miss (c : Rc) (w : World) (i : Nat) (b : Bool) (s : List UInt8) (h : RF c w i b) (hs : (!b && isW (tk c.ts i) s) = false) :
    Calls Try.prog 89 #[pt c.R, .string ⟨s.toArray⟩] w fun e w' => e = .returned (.bool false) ∧ Fr [] w w' := by
  have HS := dWord_any c w i b s h
  rw [hs] at HS
  clear h hs
  generalize (⟨s.toArray⟩ : ByteArray) = sb at *
  simp only [pt] at HS ⊢
  go_enter Try.func89, Try.ntmps89
  go_wp2_with fail
  refine HS.mono ?_
  rintro e w2 ⟨rfl, F2⟩
  have H2 := Lib.hid F2
  clear HS F2
  go_wp2_with fail
  go_ret
  exact ⟨rfl, H2.out⟩
theorem dNeed_hit (c : Rc) (w : World) (i : Nat) (s : List UInt8) (h : RF c w i false) (hs : isS (tk c.ts i) s = true) :
    Calls Try.prog 37 #[pt c.R, .string ⟨s.toArray⟩] w fun e w' => e = .returned (.tuple #[]) ∧ Fr [c.R] w w' ∧ RF c w' (i + 1) false := by
  have HS := dEat_hit c w i s h hs
  clear h hs
  generalize (⟨s.toArray⟩ : ByteArray) = sb at *
  simp only [pt] at HS ⊢
  go_enter Try.func37, Try.ntmps37
  go_wp2_with fail
  refine HS.mono ?_
  rintro e w2 ⟨rfl, F2, X2⟩
  have H2 := Lib.hid (And.intro F2 X2)
  clear HS F2 X2
  go_wp2_with fail
  go_end0
  exact ⟨rfl, H2.out⟩
theorem dNeed_miss (c : Rc) (w : World) (i : Nat) (b : Bool) (s : List UInt8) (h : RF c w i b) (hs : (!b && isS (tk c.ts i) s) = false) :
    Calls Try.prog 37 #[pt c.R, .string ⟨s.toArray⟩] w fun e w' => e = .returned (.tuple #[]) ∧ Fr [c.R] w w' ∧ RF c w' i true := by
  have HS := dEat_miss c w i b s h hs
  have HT := Lib.hid h
  clear h hs
  generalize (⟨s.toArray⟩ : ByteArray) = sb at *
  simp only [pt] at HS ⊢
  go_enter Try.func37, Try.ntmps37
  go_wp2_with fail
  refine HS.mono ?_
  rintro e w2 ⟨rfl, F2⟩
  have X2 := HT.out.keep F2
  have f2 := X2.f 2
  have c2 := X2.c2
  have H2 := Lib.hid (And.intro F2 X2)
  clear HS F2 X2
  go_wp2_with fail
  go_end0
  exact ⟨rfl, (H2.out.1.mono (by simp)).trans (Fr.set w2 c.R 2 _) (fun j hj => .inl hj), H2.out.2.spoil⟩
end Go.Proofs.Ytldecbaaajmmcaa
