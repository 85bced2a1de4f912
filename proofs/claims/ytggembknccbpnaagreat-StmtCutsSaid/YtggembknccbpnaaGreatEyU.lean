/- Layer 6 by plain functions: behind a row's end nothing stands. No program stands in here. -/
import Derived.Test.YtggembknccbpnaaGreatMpB
import Derived.Test.YtggembknccbpnaaGreatMeG
namespace Go.Proofs.YtggembknccbpnaaGreat
open Go.RowKit
set_option maxHeartbeats 2000000
set_option maxRecDepth 100000
set_option linter.unusedVariables false
set_option linter.unusedSimpArgs false

theorem end_bad {ts : List TK} {E : Nat → Re} {i : Nat} (h : ts.length ≤ i) : exM ts E i = .bad i := by
  have ht : tk ts i = zTK := tk_ge h
  have o : operM ts E i = .bad i := by
    unfold operM
    rw [ht]
    rfl
  have o1 : opsM ts notT (ts.length + 1) i = 0 := by
    unfold opsM
    rw [ht]; rfl
  have o2 : opsM ts signT 1 i = 0 := by
    unfold opsM
    rw [ht]; rfl
  have f : facM ts E i = .bad i := by
    unfold facM aheadM
    simp only [if_true, o1, Nat.add_zero, o]
  have t : termM ts E i = .bad i := by
    unfold termM betwM
    rw [f]
  have s : simM ts E i = .bad i := by
    unfold simM betwM aheadM
    simp only [Bool.false_eq_true, if_false, o2, Nat.add_zero, t]
  unfold exM betwM
  rw [s]
theorem end_lab {ts : List TK} {n i : Nat} (h : ts.length ≤ i) : labM ts (exprM ts (n + 1)) i = .bad i := by
  have he : exprM ts (n + 1) i = .bad i := end_bad h
  unfold labM lstM elemM
  rw [he]
  rfl
theorem end_des {ts : List TK} {E : Nat → Re} {i : Nat} (h : ts.length ≤ i) : desM ts E i = .bad i ∧ qualM ts i = .bad i := by
  have ht : tk ts i = zTK := tk_ge h
  have q : qualM ts i = .bad i := by
    unfold qualM
    rw [ht]; rfl
  refine ⟨?_, q⟩
  unfold desM
  rw [q]
theorem lab_in (ts : List TK) (i : Nat) : labM ts (exprM ts (ts.length + 2)) i ≠ .out := by
  rcases Nat.lt_or_ge ts.length i with h | h
  · have e : labM ts (exprM ts (ts.length + 1 + 1)) i = .bad i := end_lab (Nat.le_of_lt h)
    intro e2
    have e3 : labM ts (exprM ts (ts.length + 1 + 1)) i = .out := e2
    rw [e] at e3
    cases e3
  · exact fin_lab (mono_expr _) (fin_expr_all (ts.length + 1) (by omega)) i h
section
variable (ts : List TK) (rv : Value) (i : Nat) (w : World) (hrow : RowAt w w.heap.size rv ts) (hi : i ≤ 16384) (htl : ts.length ≤ 16384) (htx : ∀ x ∈ ts, x.1.x.length ≤ 65536)
include hrow hi htl htx
theorem Labels_all : Calls Tryz.prog 113 #[rv, .int .i64 i] w (Says w.heap.size w (labM ts (exprM ts (ts.length + 2)) i)) := by
  have HB := begin_any ts rv i w hrow hi htl htx
  obtain ⟨q, cap, hq, _⟩ := hrow
  have HT := Lib.hid (fun w1 (hX : RX (cxOf ts rv w.heap.size w) w1 i) => tell_any (cxOf ts rv w.heap.size w) (laFV (cxOf ts rv w.heap.size w)) _ (lev_labels (cxOf ts rv w.heap.size w) (exprM ts (ts.length + 2)) (exV w.heap.size) rfl (lev_expr ts rv w.heap.size w (ts.length + 2)) (mono_elem (mono_expr _))) w1 i hX (lab_in ts i))
  subst hq
  simp only [pt] at HB
  go_enter Tryz.func113, Tryz.ntmps113
  go_wp2_with fail
  refine HB.mono ?_
  rintro e w1 ⟨rfl, hX⟩
  have HC := HT.out w1 hX
  clear HB hX HT
  simp only [pt, cxOf, FV.val, deFV, quFV, laFV] at HC
  go_wp2_with fail
  refine HC.mono ?_
  rintro e w2 ⟨hb, ⟨d, j, u, h1, rfl, h3, h4⟩ | ⟨j, h1, rfl⟩⟩
  · have H := Lib.hid (And.intro hb (And.intro h1 (And.intro h3 h4)))
    clear hb h1 h3 h4 HC
    go_wp2_with fail
    go_ret3
    exact ⟨H.out.1, .inl ⟨d, j, u, H.out.2.1, rfl, H.out.2.2⟩⟩
  · have H := Lib.hid (And.intro hb h1)
    clear hb h1 HC
    go_wp2_with fail
    go_ret3
    exact ⟨H.out.1, .inr ⟨j, H.out.2, rfl⟩⟩
end
end Go.Proofs.YtggembknccbpnaaGreat
