/- Several texts in one. -/
import Derived.Test.YtldecbaaajmmcaaMeE
/- The answers of package expr. -/
namespace Go.Proofs.Ytldecbaaajmmcaa
open Go.RowKit
set_option maxHeartbeats 2000000
set_option maxRecDepth 100000
set_option linter.unusedVariables false
set_option linter.unusedSimpArgs false

theorem begin_int (ts : List TK) (rv : Value) (i : Int) (w : World) (hrow : RowAt w w.heap.size rv ts) :
    Calls Try.prog 21 #[rv, .int .i64 i] w fun e w' => e = .returned (pt w.heap.size) ∧ w'.heap[w.heap.size]? = some (.cells #[rv, .int .i64 i, (exV w.heap.size).val] 50 (0, 0)) ∧ RowAt w' w.heap.size rv ts ∧ Env w.heap.size w' ∧ Below w.heap.size w w' := by
  obtain ⟨w0, hw0⟩ : ∃ w0, w.alloc (.cells #[rv, .int .i64 i, .nilFunc] 50) = w0 := ⟨_, rfl⟩
  have F0 : Fr [] w w0 := by rw [← hw0]; exact Fr.alloc _ _
  have r0 : w0.heap[w.heap.size]? = some (.cells #[rv, .int .i64 i, .nilFunc] 50 (0, 0)) := by rw [← hw0]; exact heap_alloc_new _ _
  have s0 : w0.heap.size = w.heap.size + 1 := by rw [← hw0]; simp
  have HL := levels46 w.heap.size w0 s0
  have H0 := Lib.hid (And.intro F0 (And.intro r0 (And.intro s0 hrow)))
  obtain ⟨q, cap, hq, _⟩ := hrow
  have hq' := Lib.hid hq
  clear F0 r0 s0
  subst hq
  simp only [pt] at HL
  go_enter Try.func21, Try.ntmps21
  go_wp2_with fail
  refine HL.mono ?_
  rintro e w1 ⟨rfl, F1, hE⟩
  obtain ⟨F0, r0, s0, hrow⟩ := H0.out
  have r1 := (F1.block _ (by omega) (by simp)).trans r0
  have c2 : w1.cell? ⟨w.heap.size, 2, none⟩ = some .nilFunc := by rw [Lib.cell_of_heap r1]; rfl
  have f2 : w1.frozen? ⟨w.heap.size, 2, none⟩ = false := Lib.frozen_of_heap r1 2
  have H1 := Lib.hid (And.intro (F0.trans F1 (by simp)) (And.intro hE (And.intro r1 (And.intro hrow s0))))
  obtain ⟨xf, xa, xb, hev⟩ : ∃ f a b, (exV w.heap.size).val = .func (.func f) a b := ⟨_, _, _, rfl⟩
  rw [hev]
  have HV := Lib.hid hev
  clear F0 r0 s0 hrow r1 hE F1 HL hev hw0
  go_wp2_with fail
  go_ret
  obtain ⟨F, hE, r1, hrow, s0⟩ := H1.out
  have F2 := Fr.set w1 w.heap.size 2 (.func (.func xf) xa xb)
  have hs := F.size
  have FC1 : Fc w.heap.size [] w w1 := Fc.of_fr F (by simp) (Nat.le_refl _)
  have FC2 : Fc w.heap.size [w.heap.size] w1 (w1.setCell ⟨w.heap.size, 2, none⟩ (.func (.func xf) xa xb)) := Fc.of_fr F2 (by simp) (by omega)
  refine ⟨rfl, ?_, (hrow.fc FC1).fc FC2, hE.fc FC2, (FC1.bel).trans FC2.bel⟩
  rw [HV.out]
  simp [World.setCell, Array.getElem?_modify, r1]
theorem begin_any (ts : List TK) (rv : Value) (i : Nat) (w : World) (hrow : RowAt w w.heap.size rv ts) (hi : i ≤ 16384) (htl : ts.length ≤ 16384) (htx : ∀ x ∈ ts, x.1.x.length ≤ 65536) :
    Calls Try.prog 21 #[rv, .int .i64 i] w fun e w' => e = .returned (pt w.heap.size) ∧ RX (cxOf ts rv w.heap.size w) w' i :=
  (begin_int ts rv i w hrow).mono fun e w' ⟨he, h1, h2, h3, h4⟩ => ⟨he, h1, h2, h3, hi, htl, htx, h4⟩
/-- What an answer says. -/
def Says (B : Nat) (W0 : World) (res : Re) (e : Ending) (w' : World) : Prop := Below B W0 w' ∧
  ((∃ d j u, res = .ok d j ∧ e = .returned (.tuple #[ptrV u.p, .int .i64 j, .int .i64 0]) ∧ IsT w' (B ≤ ·) u ∧ u.dt = d) ∨ ∃ j : Nat, res = .bad j ∧ e = .returned (.tuple #[.pointer none, .int .i64 j, .int .i64 60]))
section
variable (ts : List TK) (rv : Value) (i : Nat) (w : World) (hrow : RowAt w w.heap.size rv ts) (hi : i ≤ 16384) (htl : ts.length ≤ 16384) (htx : ∀ x ∈ ts, x.1.x.length ≤ 65536)
include hrow hi htl htx
theorem Expr_any : Calls Try.prog 10 #[rv, .int .i64 i] w (Says w.heap.size w (exprM ts (ts.length + 2) i)) := by
  have HB := begin_any ts rv i w hrow hi htl htx
  obtain ⟨q, cap, hq, _⟩ := hrow
  have HT := Lib.hid (fun w1 (hX : RX (cxOf ts rv w.heap.size w) w1 i) => tell_any (cxOf ts rv w.heap.size w) (exV w.heap.size) _ (lev_expr ts rv w.heap.size w (ts.length + 2)) w1 i hX (fin_expr_all (ts.length + 1) (by omega) i (Nat.zero_le _)))
  subst hq
  simp only [pt] at HB
  go_enter Try.func10, Try.ntmps10
  go_wp2_with fail
  refine HB.mono ?_
  rintro e w1 ⟨rfl, hX⟩
  have HC := HT.out w1 hX
  have c2 : w1.cell? ⟨w.heap.size, 2, none⟩ = some (exV w.heap.size).val := hX.c2
  clear HB hX HT
  obtain ⟨ev, hev⟩ : ∃ ev, (exV w.heap.size).val = ev := ⟨_, rfl⟩
  rw [hev] at HC c2
  clear hev
  simp only [pt, cxOf] at HC
  go_wp2_with fail
  refine HC.mono ?_
  rintro e w2 ⟨hb, ⟨d, j, u, h1, rfl, h3, h4⟩ | ⟨j, h1, rfl⟩⟩
  · have H := Lib.hid (And.intro hb (And.intro h1 (And.intro h3 h4)))
    clear hb h1 h3 h4 HC
    go_wp2_with fail
    go_ret3
    exact ⟨H.out.1, .inl ⟨d, j, u, H.out.2.1, rfl, H.out.2.2⟩⟩
  · have H := Lib.hid (And.intro hb h1)
    clear hb h1 HC
    go_wp2_with fail
    go_ret3
    exact ⟨H.out.1, .inr ⟨j, H.out.2, rfl⟩⟩
theorem Designator_any : Calls Try.prog 11 #[rv, .int .i64 i] w (Says w.heap.size w (desM ts (exprM ts (ts.length + 2)) i)) := by
  have HB := begin_any ts rv i w hrow hi htl htx
  obtain ⟨q, cap, hq, _⟩ := hrow
  have HT := Lib.hid (fun w1 (hX : RX (cxOf ts rv w.heap.size w) w1 i) => tell_any (cxOf ts rv w.heap.size w) (deFV (cxOf ts rv w.heap.size w)) _ (lev_des (cxOf ts rv w.heap.size w) (exprM ts (ts.length + 2)) (exV w.heap.size) rfl (lev_expr ts rv w.heap.size w (ts.length + 2))) w1 i hX (fin_des (mono_expr _) (fin_expr_all (ts.length + 1) (by omega)) i (Nat.zero_le _)))
  subst hq
  simp only [pt] at HB
  go_enter Try.func11, Try.ntmps11
  go_wp2_with fail
  refine HB.mono ?_
  rintro e w1 ⟨rfl, hX⟩
  have HC := HT.out w1 hX
  clear HB hX HT
  simp only [pt, cxOf, FV.val, deFV, quFV, laFV] at HC
  go_wp2_with fail
  refine HC.mono ?_
  rintro e w2 ⟨hb, ⟨d, j, u, h1, rfl, h3, h4⟩ | ⟨j, h1, rfl⟩⟩
  · have H := Lib.hid (And.intro hb (And.intro h1 (And.intro h3 h4)))
    clear hb h1 h3 h4 HC
    go_wp2_with fail
    go_ret3
    exact ⟨H.out.1, .inl ⟨d, j, u, H.out.2.1, rfl, H.out.2.2⟩⟩
  · have H := Lib.hid (And.intro hb h1)
    clear hb h1 HC
    go_wp2_with fail
    go_ret3
    exact ⟨H.out.1, .inr ⟨j, H.out.2, rfl⟩⟩
theorem Qualident_any : Calls Try.prog 13 #[rv, .int .i64 i] w (Says w.heap.size w (qualM ts i)) := by
  have HB := begin_any ts rv i w hrow hi htl htx
  obtain ⟨q, cap, hq, _⟩ := hrow
  have HT := Lib.hid (fun w1 (hX : RX (cxOf ts rv w.heap.size w) w1 i) => tell_any (cxOf ts rv w.heap.size w) (quFV (cxOf ts rv w.heap.size w)) _ (lev_qual (cxOf ts rv w.heap.size w)) w1 i hX (fin_qual i))
  subst hq
  simp only [pt] at HB
  go_enter Try.func13, Try.ntmps13
  go_wp2_with fail
  refine HB.mono ?_
  rintro e w1 ⟨rfl, hX⟩
  have HC := HT.out w1 hX
  clear HB hX HT
  simp only [pt, cxOf, FV.val, deFV, quFV, laFV] at HC
  go_wp2_with fail
  refine HC.mono ?_
  rintro e w2 ⟨hb, ⟨d, j, u, h1, rfl, h3, h4⟩ | ⟨j, h1, rfl⟩⟩
  · have H := Lib.hid (And.intro hb (And.intro h1 (And.intro h3 h4)))
    clear hb h1 h3 h4 HC
    go_wp2_with fail
    go_ret3
    exact ⟨H.out.1, .inl ⟨d, j, u, H.out.2.1, rfl, H.out.2.2⟩⟩
  · have H := Lib.hid (And.intro hb h1)
    clear hb h1 HC
    go_wp2_with fail
    go_ret3
    exact ⟨H.out.1, .inr ⟨j, H.out.2, rfl⟩⟩
theorem Labels_any (hin : i ≤ ts.length) : Calls Try.prog 14 #[rv, .int .i64 i] w (Says w.heap.size w (labM ts (exprM ts (ts.length + 2)) i)) := by
  have HB := begin_any ts rv i w hrow hi htl htx
  obtain ⟨q, cap, hq, _⟩ := hrow
  have HT := Lib.hid (fun w1 (hX : RX (cxOf ts rv w.heap.size w) w1 i) => tell_any (cxOf ts rv w.heap.size w) (laFV (cxOf ts rv w.heap.size w)) _ (lev_labels (cxOf ts rv w.heap.size w) (exprM ts (ts.length + 2)) (exV w.heap.size) rfl (lev_expr ts rv w.heap.size w (ts.length + 2)) (mono_elem (mono_expr _))) w1 i hX (fin_lab (mono_expr _) (fin_expr_all (ts.length + 1) (by omega)) i hin))
  subst hq
  simp only [pt] at HB
  go_enter Try.func14, Try.ntmps14
  go_wp2_with fail
  refine HB.mono ?_
  rintro e w1 ⟨rfl, hX⟩
  have HC := HT.out w1 hX
  clear HB hX HT
  simp only [pt, cxOf, FV.val, deFV, quFV, laFV] at HC
  go_wp2_with fail
  refine HC.mono ?_
  rintro e w2 ⟨hb, ⟨d, j, u, h1, rfl, h3, h4⟩ | ⟨j, h1, rfl⟩⟩
  · have H := Lib.hid (And.intro hb (And.intro h1 (And.intro h3 h4)))
    clear hb h1 h3 h4 HC
    go_wp2_with fail
    go_ret3
    exact ⟨H.out.1, .inl ⟨d, j, u, H.out.2.1, rfl, H.out.2.2⟩⟩
  · have H := Lib.hid (And.intro hb h1)
    clear hb h1 HC
    go_wp2_with fail
    go_ret3
    exact ⟨H.out.1, .inr ⟨j, H.out.2, rfl⟩⟩
end
end Go.Proofs.Ytldecbaaajmmcaa
/- The answers of package expr at a place below 0. -/
namespace Go.Proofs.Ytldecbaaajmmcaa
open Go.RowKit
set_option maxHeartbeats 2000000
set_option maxRecDepth 100000
set_option linter.unusedVariables false
set_option linter.unusedSimpArgs false

theorem tell_neg (R : Nat) (rv ev lv : Value) (a : Int) (ha : a < 0) (w : World) (hrd : w.heap[R]? = some (.cells #[rv, .int .i64 a, ev] 50 (0, 0))) :
    Calls Try.prog 22 #[pt R, lv] w fun e w' => e = .returned (.tuple #[.pointer none, .int .i64 0, .int .i64 60]) ∧ Fr [] w w' := by
  obtain ⟨w1, hw1⟩ : ∃ w1, w.alloc (.cells #[.pointer none] 26) = w1 := ⟨_, rfl⟩
  have F1 : Fr [] w w1 := by rw [← hw1]; exact Fr.alloc _ _
  have v1 : Var w1 w.heap.size 26 (.pointer none) := by rw [← hw1]; exact heap_alloc_new _ _
  have c1 : w1.cell? ⟨R, 1, none⟩ = some (.int .i64 a) := by rw [Lib.cell_of_heap ((F1.block _ (lt_heap hrd) (by simp)).trans hrd)]; rfl
  have cx := v1.c
  have fx := v1.f
  have H := Lib.hid (And.intro F1 v1)
  clear F1 v1 hrd
  simp only [pt]
  go_enter Try.func22, Try.ntmps22
  go_wp2_with fail
  obtain ⟨w4, hw4⟩ : ∃ w4, w1.setCell ⟨w.heap.size, 0, none⟩ (.pointer none) = w4 := ⟨_, rfl⟩
  rw [hw4]
  have c4 : w4.cell? ⟨w.heap.size, 0, none⟩ = some (.pointer none) := by rw [← hw4]; exact (H.out.2.set (.pointer none)).c
  refine bodyPost_ret (v := .tuple #[.pointer none, .int .i64 0, .int .i64 60]) (by simp [results, Try.results22, go_sem, c4]) rfl ?_
  refine ⟨rfl, ?_⟩
  rw [← hw4]
  exact H.out.1.trans (Fr.set w1 w.heap.size 0 (.pointer none)) (fun j hj => .inr (by simp at hj; omega))
/-- The answer below 0. -/
def Neg (w : World) (e : Ending) (w' : World) : Prop := e = .returned (.tuple #[.pointer none, .int .i64 0, .int .i64 60]) ∧ Below w.heap.size w w'
section
variable (ts : List TK) (rv : Value) (a : Int) (ha : a < 0) (w : World) (hrow : RowAt w w.heap.size rv ts)
include ha hrow
theorem Expr_neg : Calls Try.prog 10 #[rv, .int .i64 a] w (Neg w) := by
  have HB := begin_int ts rv a w hrow
  obtain ⟨q, cap, hq, _⟩ := hrow
  subst hq
  obtain ⟨ev, hev⟩ : ∃ ev, (exV w.heap.size).val = ev := ⟨_, rfl⟩
  rw [hev] at HB
  clear hev
  simp only [pt] at HB
  go_enter Try.func10, Try.ntmps10
  go_wp2_with fail
  refine HB.mono ?_
  rintro e w1 ⟨rfl, hrd, _, _, hb⟩
  have HC := fun lv => tell_neg w.heap.size _ ev lv a ha w1 hrd
  have c2 : w1.cell? ⟨w.heap.size, 2, none⟩ = some ev := by rw [Lib.cell_of_heap hrd]; rfl
  have H := Lib.hid hb
  have HCH := Lib.hid HC
  clear HB hrd hb HC
  simp only [pt] at HCH
  go_wp2_with fail
  refine (HCH.out _).mono ?_
  rintro e w2 ⟨rfl, F2⟩
  have H2 := Lib.hid F2
  clear F2
  go_wp2_with fail
  go_ret3
  exact ⟨rfl, H.out.trans (H2.out.below _ (by simp) (H.out.size))⟩
theorem Designator_neg : Calls Try.prog 11 #[rv, .int .i64 a] w (Neg w) := by
  have HB := begin_int ts rv a w hrow
  obtain ⟨q, cap, hq, _⟩ := hrow
  subst hq
  obtain ⟨ev, hev⟩ : ∃ ev, (exV w.heap.size).val = ev := ⟨_, rfl⟩
  rw [hev] at HB
  clear hev
  simp only [pt] at HB
  go_enter Try.func11, Try.ntmps11
  go_wp2_with fail
  refine HB.mono ?_
  rintro e w1 ⟨rfl, hrd, _, _, hb⟩
  have HC := fun lv => tell_neg w.heap.size _ ev lv a ha w1 hrd
  have c2 : w1.cell? ⟨w.heap.size, 2, none⟩ = some ev := by rw [Lib.cell_of_heap hrd]; rfl
  have H := Lib.hid hb
  have HCH := Lib.hid HC
  clear HB hrd hb HC
  simp only [pt] at HCH
  go_wp2_with fail
  refine (HCH.out _).mono ?_
  rintro e w2 ⟨rfl, F2⟩
  have H2 := Lib.hid F2
  clear F2
  go_wp2_with fail
  go_ret3
  exact ⟨rfl, H.out.trans (H2.out.below _ (by simp) (H.out.size))⟩
theorem Qualident_neg : Calls Try.prog 13 #[rv, .int .i64 a] w (Neg w) := by
  have HB := begin_int ts rv a w hrow
  obtain ⟨q, cap, hq, _⟩ := hrow
  subst hq
  obtain ⟨ev, hev⟩ : ∃ ev, (exV w.heap.size).val = ev := ⟨_, rfl⟩
  rw [hev] at HB
  clear hev
  simp only [pt] at HB
  go_enter Try.func13, Try.ntmps13
  go_wp2_with fail
  refine HB.mono ?_
  rintro e w1 ⟨rfl, hrd, _, _, hb⟩
  have HC := fun lv => tell_neg w.heap.size _ ev lv a ha w1 hrd
  have c2 : w1.cell? ⟨w.heap.size, 2, none⟩ = some ev := by rw [Lib.cell_of_heap hrd]; rfl
  have H := Lib.hid hb
  have HCH := Lib.hid HC
  clear HB hrd hb HC
  simp only [pt] at HCH
  go_wp2_with fail
  refine (HCH.out _).mono ?_
  rintro e w2 ⟨rfl, F2⟩
  have H2 := Lib.hid F2
  clear F2
  go_wp2_with fail
  go_ret3
  exact ⟨rfl, H.out.trans (H2.out.below _ (by simp) (H.out.size))⟩
theorem Labels_neg : Calls Try.prog 14 #[rv, .int .i64 a] w (Neg w) := by
  have HB := begin_int ts rv a w hrow
  obtain ⟨q, cap, hq, _⟩ := hrow
  subst hq
  obtain ⟨ev, hev⟩ : ∃ ev, (exV w.heap.size).val = ev := ⟨_, rfl⟩
  rw [hev] at HB
  clear hev
  simp only [pt] at HB
  go_enter Try.func14, Try.ntmps14
  go_wp2_with fail
  refine HB.mono ?_
  rintro e w1 ⟨rfl, hrd, _, _, hb⟩
  have HC := fun lv => tell_neg w.heap.size _ ev lv a ha w1 hrd
  have c2 : w1.cell? ⟨w.heap.size, 2, none⟩ = some ev := by rw [Lib.cell_of_heap hrd]; rfl
  have H := Lib.hid hb
  have HCH := Lib.hid HC
  clear HB hrd hb HC
  simp only [pt] at HCH
  go_wp2_with fail
  refine (HCH.out _).mono ?_
  rintro e w2 ⟨rfl, F2⟩
  have H2 := Lib.hid F2
  clear F2
  go_wp2_with fail
  go_ret3
  exact ⟨rfl, H.out.trans (H2.out.below _ (by simp) (H.out.size))⟩
end
end Go.Proofs.Ytldecbaaajmmcaa
