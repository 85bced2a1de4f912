/- Layer 7: a body at a place of a row. -/
import Derived.Test.YtggembknccbpnaaGreatMtH
namespace Go.Proofs.YtggembknccbpnaaGreat
open Go.RowKit
set_option maxHeartbeats 4000000
set_option maxRecDepth 100000
set_option linter.unusedVariables false
set_option linter.unusedSimpArgs false

theorem end_body (c : Sc) (n : Nat) : EndB c (bodyM c.ts n) := fun i d j hi h => ((pr_body (agr_refl 0 c.ts) n n i hi).bd.1 d j h).1
/-- The knot. -/
theorem cb_all (c : Sc) : ∀ n, CB c (bodyM c.ts n) := by
  intro n
  induction n with
  | zero => exact fun w i done Post b _ _ _ hT => absurd rfl hT.no
  | succ n ih =>
    exact body_any c (bodyM c.ts n) (stm_any c _ ih ⟨entI0, fun w i done Post b h1 h2 h3 h4 h5 => ifs_any c _ ih (end_body c n) w i done Post b h1 h2 h3 h4 h5⟩
      ⟨entC0, fun w i done Post b h1 h2 h3 h4 h5 => cas_any c _ ih (end_body c n) (mono_armM c.ts n) w i done Post b h1 h2 h3 h4 h5⟩
      ⟨ent_for, fun w i done Post b h1 h2 h3 h4 h5 => for_any c _ ih w i done Post b h1 h2 h3 h4 h5⟩) (mono_stm c.ts n)
theorem step_neq_nil (w : World) : (binOp .neq 49 .nilFunc .nilFunc).run Tryz.prog w = .ok (.bool false) w := by kernel_rfl
theorem step_neq_fn (f : FuncId) (a b : Array Value) (w : World) : (binOp .neq 49 (.func (.func f) a b) .nilFunc).run Tryz.prog w = .ok (.bool true) w := by kernel_rfl
theorem entBo1 : Enters 18 := ⟨_, _, Tryz.func18, by kernel_rfl, rfl⟩
/-- Where the reader stands at last. -/
structure Rds (c : Sc) (w : World) (j : Nat) : Prop where
  rd : w.heap[c.R]? = some (.cells #[c.rv, .int .i64 j, .map (some c.mb)] 54 (0, 0))
  h : Below c.B c.W0 w
/-- What is told at last. -/
def Tolds (c : Sc) (B X : Nat) (res : Re) (w : World) : Prop := (∃ d j u, res = .ok d j ∧ Rds c w j ∧ Var w X 26 (ptrV u.p) ∧ IsT w (B ≤ ·) u ∧ u.dt = d) ∨ ∃ j, res = .bad j ∧ Rds c w j ∧ Var w X 26 (.pointer none)
theorem told1 (c : Sc) (X j : Nat) (u : Tr) (v : Value) (d : DT) (w : World) (hX : SX c w j) (hB : c.B ≤ X) (hR : X < c.R) (hv : Var w X 26 v) (hu : IsT w (X + 1 ≤ ·) u) (hd : u.dt = d) :
    Calls Tryz.prog 18 #[ptrV u.p, pt X] w (GQ (Tolds c (X + 1) X (.ok d j))) := by
  have cx := hv.c
  have fx := hv.f
  have H := Lib.hid (And.intro hX (And.intro hv hu))
  clear hX hv hu
  simp only [ptrV, pt]
  go_enter Tryz.func18, Tryz.ntmps18
  go_wp2_with fail
  go_ret
  obtain ⟨hX, hv, hu⟩ := H.out
  have F := Fr.set w X 0 (ptrV u.p)
  have hXl := hv.lt
  refine gq_nil (.inl ⟨d, j, u, rfl, ⟨(F.block _ hX.lt (by simp; omega)).trans hX.rd, hX.hist.trans (F.below c.B (by simp; omega) (by omega))⟩, hv.set _, hu.keep (fun q hq _ => hq) (fun q hq hl => F.block q hl (by simp; have : X + 1 ≤ q := hq; omega)), hd⟩)
theorem Body_any (ts : List TK) (rv : Value) (i : Nat) (w : World) (hrow : RowAt w w.heap.size rv ts) (hi : i ≤ 16384) (htl : ts.length ≤ 16384) (htx : ∀ x ∈ ts, x.1.x.length ≤ 65536) (hne : BM ts i ≠ .out) :
    Calls Tryz.prog 10 #[rv, .int .i64 i] w (Says w.heap.size w (BM ts i)) := by
  obtain ⟨X, hX⟩ : ∃ X, w.heap.size = X := ⟨_, rfl⟩
  obtain ⟨w1, hw1⟩ : ∃ w1, w.alloc (.cells #[.pointer none] 26) = w1 := ⟨_, rfl⟩
  have F1 : Fr [] w w1 := by rw [← hw1]; exact Fr.alloc _ _
  have v1 : Var w1 X 26 (.pointer none) := by rw [← hw1, ← hX]; exact heap_alloc_new _ _
  have s1 : w1.heap.size = X + 1 := by rw [← hw1, ← hX]; simp
  have hrow1 : RowAt w1 w1.heap.size rv ts := by
    obtain ⟨q, cap, e1, e2⟩ := hrow.fc (Fc.of_fr F1 (B := w.heap.size) (by simp) (Nat.le_refl _))
    exact ⟨q, cap, e1, fun i x hx => by obtain ⟨g, a1, a2, a3⟩ := e2 i x hx; exact ⟨g, a1, by omega, a3⟩⟩
  have HB := begin_s ts rv i w1 hrow1
  have hi0 : ¬ ((i : Int) < 0) := by omega
  have HH := Lib.hid (And.intro F1 (And.intro v1 (And.intro hrow (And.intro hi (And.intro htl (And.intro htx (And.intro hX hne)))))))
  obtain ⟨q, cap, hq, _⟩ := hrow
  clear F1 v1 hi htl htx hrow1 hX hne
  rw [s1] at HB
  have HQ := Lib.hid hq
  subst hq
  go_enter Tryz.func10, Tryz.ntmps10
  go_wp2_with fail
  refine HB.mono ?_
  rintro e w2 ⟨rfl, hrd, hr2, hmp, F2⟩
  have HST : Hid (∃ c : Sc, c.ts = ts ∧ c.R = X + 1 ∧ c.B = X ∧ c.W0 = w ∧ c.mb = X + 2 ∧ SX c w2 i) := Lib.hid (by
    obtain ⟨F1, v1, hrow, hi, htl, htx, hX, hne⟩ := HH.out
    have F02 : Fr [] w w2 := F1.on F2
    have hr3 : RowAt w2 X (.slice q ts.length cap) ts := by rw [← hX]; exact hrow.fc (Fc.of_fr F02 (B := w.heap.size) (by simp) (Nat.le_refl _))
    exact ⟨⟨ts, .slice q ts.length cap, X + 1, X, X + 2, w, by omega, by omega⟩, rfl, rfl, rfl, rfl, rfl, ⟨hrd, hr3, hmp, hi, htl, htx, F02.below X (by simp) (by omega)⟩⟩)
  have v2 := Lib.hid (HH.out.2.1.keep F2 (by simp))
  clear HB hrd hr2 hmp F2
  rw [HH.out.2.2.2.2.2.2.1]
  obtain ⟨c, rfl, hcR, hcB, hcW, hcm, hS⟩ := HST.out
  have HC := cb_all c (c.ts.length + 2) w2 i ⟨18, #[], #[pt X]⟩ (Tolds c (X + 1) X (BM c.ts i)) (X + 3) hS (by omega) (by have := hS.mp.lt; omega) ⟨fun d j er u w' F X' hu hd => ⟨entBo1, by
    have er : BM c.ts i = .ok d j := er
    rw [er]
    exact told1 c X j u _ d w' X' (by omega) (by omega) (v2.out.keep F (by simp; omega)) (hu.keep (fun q hq _ => by have hq : X + 3 ≤ q := hq; show X + 1 ≤ q; omega) (fun _ _ _ => rfl)) hd⟩, fun j er w' F X' => .inr ⟨j, er, ⟨X'.rd, X'.hist⟩, v2.out.keep F (by simp; omega)⟩, HH.out.2.2.2.2.2.2.2⟩
  rw [hcR] at HC
  have HCI := Lib.hid (And.intro hcR (And.intro hcB (And.intro hcW hcm)))
  clear HST hcR hcB hcW hcm hS v2
  simp only [FV.val, pt] at HC
  go_wp2_with fail
  refine HC.mono ?_
  rintro e w3 ⟨s, rfl, hr⟩
  have hruns := Lib.hid hr
  clear HC hr
  go_wp2_with fail
  have hnn := fun w => step_neq_nil w
  have hnf := fun f a b w => step_neq_fn f a b w
  refine Turn.loop ?_
  refine hruns.out (fun s' w' => ∀ u17 u18 u19 u20, Turn _ _ _ { tmps := #[.slice q c.ts.length cap, .int .i64 i, undef, undef, .pointer (some ⟨X, 0, none⟩), .int .i64 0, .int .i64 0, .pointer (some ⟨X + 1, 0, none⟩), s', .int .i64 i, .bool false, .slice q c.ts.length cap, .int .i64 i, .pointer (some ⟨X + 1, 0, none⟩), .pointer (some ⟨X + 1, 0, none⟩), .func (.func 18) #[] #[.pointer (some ⟨X, 0, none⟩)], s, u17, u18, u19, u20, undef, undef, undef, undef, undef, undef, undef, undef, undef, undef, undef], defers := [] } w') ?nil ?func undef undef undef undef
  case nil =>
    intro w' hP u17 u18 u19 u20
    refine Turn.step ?_
    clear hruns
    have hnc : ∀ (w : World), (binOp .eql 26 (.pointer none) (.pointer none)).run Tryz.prog w = .ok (.bool true) w := eqn_nil
    rcases hP with ⟨d, j, u, hres, hrd, hv, hu, hd⟩ | ⟨j, hres, hrd, hv⟩
    · have cj : w'.cell? ⟨X + 1, 1, none⟩ = some (.int .i64 j) := by rw [← HCI.out.1, Lib.cell_of_heap hrd.rd]; rfl
      have cx := hv.c
      have fx := hv.f
      have H := Lib.hid (And.intro hres (And.intro hrd (And.intro hu (And.intro hd hv))))
      clear hres hrd hu hd hv
      simp only [ptrV] at cx
      go_wp2_with fail
      go_region
      obtain ⟨w4, hw4⟩ : ∃ w4, (w'.setCell ⟨X, 0, none⟩ (.pointer (some ⟨u.p, 0, none⟩))).drew = w4 := ⟨_, rfl⟩
      try rw [hw4]
      have H4 : Hid (Fr [X] w' w4) := Lib.hid (by rw [← hw4]; exact (Fr.set w' X 0 (ptrV u.p)).trans (Fr.drew _) (by simp))
      have c4 : w4.cell? ⟨X, 0, none⟩ = some (.pointer (some ⟨u.p, 0, none⟩)) := by rw [← hw4]; exact (H.out.2.2.2.2.set (ptrV u.p)).c
      clear cj cx fx hw4
      go_wp2_with fail
      refine bodyPost_ret (v := .tuple #[.pointer (some ⟨u.p, 0, none⟩), .int .i64 j, .int .i64 0]) (by simp [results, Tryz.results10, go_sem, c4]) rfl ?_
      obtain ⟨hres, hrd, hu, hd, hv⟩ := H.out
      obtain ⟨hcR, hcB, hcW, hcm⟩ := HCI.out
      have hXw : w.heap.size = X := HH.out.2.2.2.2.2.2.1
      have hBel := hrd.h
      rw [hcB, hcW] at hBel
      have hXl := hv.lt
      refine ⟨by rw [hXw]; exact hBel.trans (H4.out.below X (by simp) (by omega)), .inl ⟨d, j, u, hres, rfl, hu.keep (fun q hq _ => ?_) (fun q hq hl => H4.out.block q hl ?_), hd⟩⟩
      · have hq : X + 1 ≤ q := hq; omega
      · simp; have hq : X + 1 ≤ q := hq; omega
    · have cj : w'.cell? ⟨X + 1, 1, none⟩ = some (.int .i64 j) := by rw [← HCI.out.1, Lib.cell_of_heap hrd.rd]; rfl
      have cx := hv.c
      have fx := hv.f
      have H := Lib.hid (And.intro hres (And.intro hrd hv))
      clear hres hrd hv
      go_wp2_with fail
      go_region
      obtain ⟨w4, hw4⟩ : ∃ w4, (w'.setCell ⟨X, 0, none⟩ (.pointer none)).drew = w4 := ⟨_, rfl⟩
      try rw [hw4]
      have H4 : Hid (Fr [X] w' w4) := Lib.hid (by rw [← hw4]; exact (Fr.set w' X 0 (.pointer none)).trans (Fr.drew _) (by simp))
      have c4 : w4.cell? ⟨X, 0, none⟩ = some (.pointer none) := by rw [← hw4]; exact (H.out.2.2.set (.pointer none)).c
      clear cj cx fx hw4
      go_wp2_with fail
      refine bodyPost_ret (v := .tuple #[.pointer none, .int .i64 j, .int .i64 60]) (by simp [results, Tryz.results10, go_sem, c4]) rfl ?_
      obtain ⟨hres, hrd, hv⟩ := H.out
      obtain ⟨hcR, hcB, hcW, hcm⟩ := HCI.out
      have hXw : w.heap.size = X := HH.out.2.2.2.2.2.2.1
      have hBel := hrd.h
      rw [hcB, hcW] at hBel
      have hXl := hv.lt
      exact ⟨by rw [hXw]; exact hBel.trans (H4.out.below X (by simp) (by omega)), .inr ⟨j, hres, rfl⟩⟩
  case func =>
    intro f first caps w' hE hC u17 u18 u19 u20
    have hRn2 := run_enters hE
    refine Turn.step ?_
    clear hE hruns
    go_wp2_with fail
    refine hC.mono ?_
    rintro e w3 ⟨s', rfl, hK⟩
    have HK := Lib.hid hK
    clear hC hK
    go_wp2_with fail
    exact HK.out _ _ _ _
end Go.Proofs.YtggembknccbpnaaGreat
