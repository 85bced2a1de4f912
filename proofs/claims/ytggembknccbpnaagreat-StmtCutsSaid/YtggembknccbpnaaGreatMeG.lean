/- Several texts in one. -/
import Derived.Test.YtggembknccbpnaaGreatMeE
/- The answers of package expr. -/
namespace Go.Proofs.YtggembknccbpnaaGreat
open Go.RowKit
set_option maxHeartbeats 2000000
set_option maxRecDepth 100000
set_option linter.unusedVariables false
set_option linter.unusedSimpArgs false

theorem begin_int (ts : List TK) (rv : Value) (i : Int) (w : World) (hrow : RowAt w w.heap.size rv ts) :
    Calls Tryz.prog 104 #[rv, .int .i64 i] w fun e w' => e = .returned (pt w.heap.size) ∧ w'.heap[w.heap.size]? = some (.cells #[rv, .int .i64 i, (exV w.heap.size).val] 119 (0, 0)) ∧ RowAt w' w.heap.size rv ts ∧ Env w.heap.size w' ∧ Below w.heap.size w w' := by
  obtain ⟨w0, hw0⟩ : ∃ w0, w.alloc (.cells #[rv, .int .i64 i, .nilFunc] 119) = w0 := ⟨_, rfl⟩
  have F0 : Fr [] w w0 := by rw [← hw0]; exact Fr.alloc _ _
  have r0 : w0.heap[w.heap.size]? = some (.cells #[rv, .int .i64 i, .nilFunc] 119 (0, 0)) := by rw [← hw0]; exact heap_alloc_new _ _
  have s0 : w0.heap.size = w.heap.size + 1 := by rw [← hw0]; simp
  have HL := levels46 w.heap.size w0 s0
  have H0 := Lib.hid (And.intro F0 (And.intro r0 (And.intro s0 hrow)))
  obtain ⟨q, cap, hq, _⟩ := hrow
  have hq' := Lib.hid hq
  clear F0 r0 s0
  subst hq
  simp only [pt] at HL
  go_enter Tryz.func104, Tryz.ntmps104
  go_wp2_with fail
  refine HL.mono ?_
  rintro e w1 ⟨rfl, F1, hE⟩
  obtain ⟨F0, r0, s0, hrow⟩ := H0.out
  have r1 := (F1.block _ (by omega) (by simp)).trans r0
  have c2 : w1.cell? ⟨w.heap.size, 2, none⟩ = some .nilFunc := by rw [Lib.cell_of_heap r1]; rfl
  have f2 : w1.frozen? ⟨w.heap.size, 2, none⟩ = false := Lib.frozen_of_heap r1 2
  have H1 := Lib.hid (And.intro (F0.trans F1 (by simp)) (And.intro hE (And.intro r1 (And.intro hrow s0))))
  obtain ⟨xf, xa, xb, hev⟩ : ∃ f a b, (exV w.heap.size).val = .func (.func f) a b := ⟨_, _, _, rfl⟩
  rw [hev]
  have HV := Lib.hid hev
  clear F0 r0 s0 hrow r1 hE F1 HL hev hw0
  go_wp2_with fail
  go_ret
  obtain ⟨F, hE, r1, hrow, s0⟩ := H1.out
  have F2 := Fr.set w1 w.heap.size 2 (.func (.func xf) xa xb)
  have hs := F.size
  have FC1 : Fc w.heap.size [] w w1 := Fc.of_fr F (by simp) (Nat.le_refl _)
  have FC2 : Fc w.heap.size [w.heap.size] w1 (w1.setCell ⟨w.heap.size, 2, none⟩ (.func (.func xf) xa xb)) := Fc.of_fr F2 (by simp) (by omega)
  refine ⟨rfl, ?_, (hrow.fc FC1).fc FC2, hE.fc FC2, (FC1.bel).trans FC2.bel⟩
  rw [HV.out]
  simp [World.setCell, Array.getElem?_modify, r1]
theorem begin_any (ts : List TK) (rv : Value) (i : Nat) (w : World) (hrow : RowAt w w.heap.size rv ts) (hi : i ≤ 16384) (htl : ts.length ≤ 16384) (htx : ∀ x ∈ ts, x.1.x.length ≤ 65536) :
    Calls Tryz.prog 104 #[rv, .int .i64 i] w fun e w' => e = .returned (pt w.heap.size) ∧ RX (cxOf ts rv w.heap.size w) w' i :=
  (begin_int ts rv i w hrow).mono fun e w' ⟨he, h1, h2, h3, h4⟩ => ⟨he, h1, h2, h3, hi, htl, htx, h4⟩
/-- What an answer says. -/
def Says (B : Nat) (W0 : World) (res : Re) (e : Ending) (w' : World) : Prop := Below B W0 w' ∧
  ((∃ d j u, res = .ok d j ∧ e = .returned (.tuple #[ptrV u.p, .int .i64 j, .int .i64 0]) ∧ IsT w' (B ≤ ·) u ∧ u.dt = d) ∨ ∃ j : Nat, res = .bad j ∧ e = .returned (.tuple #[.pointer none, .int .i64 j, .int .i64 60]))
section
variable (ts : List TK) (rv : Value) (i : Nat) (w : World) (hrow : RowAt w w.heap.size rv ts) (hi : i ≤ 16384) (htl : ts.length ≤ 16384) (htx : ∀ x ∈ ts, x.1.x.length ≤ 65536)
include hrow hi htl htx
theorem Expr_any : Calls Tryz.prog 78 #[rv, .int .i64 i] w (Says w.heap.size w (exprM ts (ts.length + 2) i)) := by
  have HB := begin_any ts rv i w hrow hi htl htx
  obtain ⟨q, cap, hq, _⟩ := hrow
  have HT := Lib.hid (fun w1 (hX : RX (cxOf ts rv w.heap.size w) w1 i) => tell_any (cxOf ts rv w.heap.size w) (exV w.heap.size) _ (lev_expr ts rv w.heap.size w (ts.length + 2)) w1 i hX (fin_expr_all (ts.length + 1) (by omega) i (Nat.zero_le _)))
  subst hq
  simp only [pt] at HB
  go_enter Tryz.func78, Tryz.ntmps78
  go_wp2_with fail
  refine HB.mono ?_
  rintro e w1 ⟨rfl, hX⟩
  have HC := HT.out w1 hX
  have c2 : w1.cell? ⟨w.heap.size, 2, none⟩ = some (exV w.heap.size).val := hX.c2
  clear HB hX HT
  obtain ⟨ev, hev⟩ : ∃ ev, (exV w.heap.size).val = ev := ⟨_, rfl⟩
  rw [hev] at HC c2
  clear hev
  simp only [pt, cxOf] at HC
  go_wp2_with fail
  refine HC.mono ?_
  rintro e w2 ⟨hb, ⟨d, j, u, h1, rfl, h3, h4⟩ | ⟨j, h1, rfl⟩⟩
  · have H := Lib.hid (And.intro hb (And.intro h1 (And.intro h3 h4)))
    clear hb h1 h3 h4 HC
    go_wp2_with fail
    go_ret3
    exact ⟨H.out.1, .inl ⟨d, j, u, H.out.2.1, rfl, H.out.2.2⟩⟩
  · have H := Lib.hid (And.intro hb h1)
    clear hb h1 HC
    go_wp2_with fail
    go_ret3
    exact ⟨H.out.1, .inr ⟨j, H.out.2, rfl⟩⟩
theorem Designator_any : Calls Tryz.prog 92 #[rv, .int .i64 i] w (Says w.heap.size w (desM ts (exprM ts (ts.length + 2)) i)) := by
  have HB := begin_any ts rv i w hrow hi htl htx
  obtain ⟨q, cap, hq, _⟩ := hrow
  have HT := Lib.hid (fun w1 (hX : RX (cxOf ts rv w.heap.size w) w1 i) => tell_any (cxOf ts rv w.heap.size w) (deFV (cxOf ts rv w.heap.size w)) _ (lev_des (cxOf ts rv w.heap.size w) (exprM ts (ts.length + 2)) (exV w.heap.size) rfl (lev_expr ts rv w.heap.size w (ts.length + 2))) w1 i hX (fin_des (mono_expr _) (fin_expr_all (ts.length + 1) (by omega)) i (Nat.zero_le _)))
  subst hq
  simp only [pt] at HB
  go_enter Tryz.func92, Tryz.ntmps92
  go_wp2_with fail
  refine HB.mono ?_
  rintro e w1 ⟨rfl, hX⟩
  have HC := HT.out w1 hX
  clear HB hX HT
  simp only [pt, cxOf, FV.val, deFV, quFV, laFV] at HC
  go_wp2_with fail
  refine HC.mono ?_
  rintro e w2 ⟨hb, ⟨d, j, u, h1, rfl, h3, h4⟩ | ⟨j, h1, rfl⟩⟩
  · have H := Lib.hid (And.intro hb (And.intro h1 (And.intro h3 h4)))
    clear hb h1 h3 h4 HC
    go_wp2_with fail
    go_ret3
    exact ⟨H.out.1, .inl ⟨d, j, u, H.out.2.1, rfl, H.out.2.2⟩⟩
  · have H := Lib.hid (And.intro hb h1)
    clear hb h1 HC
    go_wp2_with fail
    go_ret3
    exact ⟨H.out.1, .inr ⟨j, H.out.2, rfl⟩⟩
theorem Labels_any (hin : i ≤ ts.length) : Calls Tryz.prog 113 #[rv, .int .i64 i] w (Says w.heap.size w (labM ts (exprM ts (ts.length + 2)) i)) := by
  have HB := begin_any ts rv i w hrow hi htl htx
  obtain ⟨q, cap, hq, _⟩ := hrow
  have HT := Lib.hid (fun w1 (hX : RX (cxOf ts rv w.heap.size w) w1 i) => tell_any (cxOf ts rv w.heap.size w) (laFV (cxOf ts rv w.heap.size w)) _ (lev_labels (cxOf ts rv w.heap.size w) (exprM ts (ts.length + 2)) (exV w.heap.size) rfl (lev_expr ts rv w.heap.size w (ts.length + 2)) (mono_elem (mono_expr _))) w1 i hX (fin_lab (mono_expr _) (fin_expr_all (ts.length + 1) (by omega)) i hin))
  subst hq
  simp only [pt] at HB
  go_enter Tryz.func113, Tryz.ntmps113
  go_wp2_with fail
  refine HB.mono ?_
  rintro e w1 ⟨rfl, hX⟩
  have HC := HT.out w1 hX
  clear HB hX HT
  simp only [pt, cxOf, FV.val, deFV, quFV, laFV] at HC
  go_wp2_with fail
  refine HC.mono ?_
  rintro e w2 ⟨hb, ⟨d, j, u, h1, rfl, h3, h4⟩ | ⟨j, h1, rfl⟩⟩
  · have H := Lib.hid (And.intro hb (And.intro h1 (And.intro h3 h4)))
    clear hb h1 h3 h4 HC
    go_wp2_with fail
    go_ret3
    exact ⟨H.out.1, .inl ⟨d, j, u, H.out.2.1, rfl, H.out.2.2⟩⟩
  · have H := Lib.hid (And.intro hb h1)
    clear hb h1 HC
    go_wp2_with fail
    go_ret3
    exact ⟨H.out.1, .inr ⟨j, H.out.2, rfl⟩⟩
end
end Go.Proofs.YtggembknccbpnaaGreat
