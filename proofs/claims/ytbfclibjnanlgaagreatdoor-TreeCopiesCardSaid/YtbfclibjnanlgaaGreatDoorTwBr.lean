/- tree.walk, with the closures of rising. -/
import Derived.Test.YtbfclibjnanlgaaGreatDoorTwA
import Derived.Deep.LoopGhost
import Derived.Deep.RegionHeld3
import Derived.Deep.DeepCutAuto
import Derived.Outline
import Derived.Deep.QuietTactic
import Derived.BigQuiet
import Derived.StillTailTactics
namespace Go.Proofs.YtbfclibjnanlgaaGreatDoor
open Go.RowKit
set_option maxHeartbeats 2000000
set_option maxRecDepth 100000
set_option linter.unusedVariables false

/-- What the closures of rising do to a state s, which lies in the blocks M. -/
structure Clr {σ : Type} (base : Nat) (Inv : σ → List Nat → World → Prop) (en : Tr → σ → σ) (lv : σ → σ) (Q : Nat → List Tr → σ → Prop) (ec lc : List Value) : Prop where
  lt : ∀ s M w, Inv s M w → ∀ j ∈ M, j < w.heap.size
  keep : ∀ s M w w' N, Inv s M w → Fr N w w' → (∀ j ∈ N, j ∉ M ∧ base ≤ j) → Inv s M w'
  ent : ∀ s M w n t r v, Inv s M w → Q n (t :: r) s → w.heap[t.p]? = some (nodeO t.d v) → t.p < base → base ≤ w.heap.size →
    Calls Tryz.prog 39 (ptrV t.p :: ec).toArray w fun e w' => e = .returned (.bool true) ∧ ∃ M', Inv (en t s) M' w' ∧ Fr M w w' ∧ ∀ j ∈ M', j ∈ M ∨ w.heap.size ≤ j
  lev : ∀ s M w n r, Inv s M w → Q (n + 1) r s → base ≤ w.heap.size →
    Calls Tryz.prog 40 lc.toArray w fun e w' => e = .returned (.tuple #[]) ∧ ∃ M', Inv (lv s) M' w' ∧ Fr M w w' ∧ ∀ j ∈ M', j ∈ M ∨ w.heap.size ≤ j
  qent : ∀ s n t r, Q n (t :: r) s → Q (n + 1) (t.ks ++ r) (en t s)
  qlev : ∀ s n r, Q (n + 1) r s → Q n r (lv s)
  big : ∀ s M w, Inv s M w → ∀ j ∈ M, base ≤ j
def stepCr (x : Nat × Nat) : List Value := [ptrV x.1, .int .i64 x.2]
theorem len_stepsr : ∀ l : List (Nat × Nat), (l.flatMap stepCr).length = l.length * 2
  | [] => rfl
  | x :: r => by rw [List.flatMap_cons, List.length_append, len_stepsr r]; simp [stepCr]; omega
theorem infor : (Tryz.prog.info? 77).map (fun i => (i.zero, i.size, i.bytes)) = some (some (.agg #[.pointer none, .int .i64 0]), 2, 16) := by kernel_rfl
/-- The stack of walk. -/
structure Stkr (w : World) (be bw : Nat) (ec : List Value) (v : Value) (l : List (Nat × Nat)) (base : Nat) : Prop where
  e : Var w be 47 (.func (.func 39) #[] ec.toArray)
  c : Var w bw 75 v
  r : w.ownsRow base 77 2 v l.length (l.flatMap stepCr)
  nb : be ≠ bw
  n1 : be ∉ obL v
  n2 : bw ∉ obL v
  b1 : base ≤ be
  b2 : base ≤ bw
theorem visit_r {σ : Type} {base : Nat} {Inv : σ → List Nat → World → Prop} {en : Tr → σ → σ} {lv : σ → σ} {Q : Nat → List Tr → σ → Prop} {x0 x1 x2 x3 : Value} (C : Clr base Inv en lv Q [x0, x1, x2] [x2, x1, x3])
    (s : σ) (M : List Nat) (w : World) (be bw : Nat) (v : Value) (l : List (Nat × Nat)) (t : Tr) (r : List Tr) (u : Value) (n : Nat) (hS : Stkr w be bw [x0, x1, x2] v l base) (hI : Inv s M w) (hQ : Q n (t :: r) s) (hN : w.heap[t.p]? = some (nodeO t.d u)) (hp : t.p < base)
    (hM : ∀ j ∈ M, j ≠ be ∧ j ≠ bw ∧ j ∉ obL v) (hl : l.length ≤ 1048576) (hb : base ≤ w.heap.size) :
    Calls Tryz.prog 41 #[ptrV t.p, .pointer (some ⟨be, 0, none⟩), .pointer (some ⟨bw, 0, none⟩)] w fun e w' => e = .returned (.tuple #[]) ∧ ∃ v' M', Stkr w' be bw [x0, x1, x2] v' (l ++ [(t.p, 0)]) base ∧ Inv (en t s) M' w' ∧ Fr (bw :: (obL v ++ M)) w w' ∧ (∀ j ∈ M', j ∈ M ∨ w.heap.size ≤ j) ∧ (∀ j ∈ M', j ≠ be ∧ j ≠ bw ∧ j ∉ obL v') ∧ (∀ j ∈ obL v', j ∈ obL v ∨ w.heap.size ≤ j) := by
  have HE := C.ent s M w n t r u hI hQ hN hp hb
  have ce := hS.e.c
  obtain ⟨i0, hi, hz0, hz1, hz2⟩ := info_parts infor
  have HC := Lib.hid C
  have HI := Lib.hid hI
  have HM := Lib.hid hM
  have HS := Lib.hid hS
  clear C hI hM hS hQ hN
  simp only [ptrV]
  go_enter Tryz.func41, Tryz.ntmps41
  go_wp2_with fail
  refine HE.mono ?_
  rintro e w1 ⟨rfl, M', hI1, F1, hM'⟩
  have hS1 : Var w1 bw 75 v := HS.out.c.keep F1 (fun h => (HM.out _ h).2.1 rfl)
  have hr1 := own_keep HS.out.r F1 (fun j hj hm => (HM.out j hm).2.2 hj)
  have c1 := hS1.c
  have f1 := hS1.f
  have hs1 := F1.size
  have he1 : Var w1 be _ _ := HS.out.e.keep F1 (fun h => (HM.out _ h).1 rfl)
  have HI1 := Lib.hid hI1
  have HF1 := Lib.hid F1
  have HM' := Lib.hid hM'
  have HV1 := Lib.hid hS1
  have HE1 := Lib.hid he1
  clear HE hI1 F1 hM' hS1 he1
  have hnn : ∀ j u, [ptrV t.p, (.int .i64 0 : Value)][j]? = some u → (w1.alloc (.cells #[.pointer (some ⟨t.p, 0, none⟩), .int .i64 0] 77)).cell? ((⟨w1.heap.size, 0, none⟩ : Addr).add j) = some u := fun j u hj => by
    match j, hj with
    | 0, hj => simp at hj; subst hj; simp [Addr.add, ptrV]
    | 1, hj => simp at hj; subst hj; simp [Addr.add]
  have hone : ∀ u ∈ [ptrV t.p, (.int .i64 0 : Value)], u.oneCell' = true := fun u hu => by
    simp at hu
    rcases hu with rfl | rfl <;> rfl
  have hr2 := hr1.alloc (.cells #[.pointer (some ⟨t.p, 0, none⟩), .int .i64 0] 77)
  have HNN := Lib.hid hnn
  have HON := Lib.hid hone
  clear hnn hone
  go_wp2_with (at_builtin; refine wpList_append_lies _ rfl _ _ 75 rfl base 77 i0 _ 2 16 Tryz.underlying75 hi hz0 hz1 hz2 rfl (by decide) v l.length (l.flatMap stepCr) rfl hr2 ⟨w1.heap.size, 0, none⟩ 1 1 [ptrV t.p, .int .i64 0] rfl rfl HNN.out HON.out (by decide) (by unfold maxLen; omega) (by omega) (by simp; omega) (w1.heap.size + 1) (by simp) ?_)
  intro g cap w2 hown hgrow hat hlt
  have hV2 : Var w2 bw 75 v := (HV1.out.keep (Fr.alloc _ _) (by simp)).keep (Fr.of_grown hgrow) (fun h => HS.out.n2 h)
  have c2 := hV2.c
  have f2 := hV2.f
  have HG := Lib.hid hgrow
  have HO := Lib.hid hown
  have HA := Lib.hid hat
  have HV2 := Lib.hid hV2
  clear hgrow hown hat hV2 hr2 hr1 c1 f1
  go_wp2_with fail
  go_end0
  have FA : Fr [] w1 (w1.alloc (.cells #[.pointer (some ⟨t.p, 0, none⟩), .int .i64 0] 77)) := Fr.alloc _ _
  have FG := Fr.of_grown HG.out
  have F2 : Fr (obL v) w1 w2 := (FA.mono (N := obL v) (fun j hj => by cases hj)).trans FG (fun j hj => .inl hj)
  have F3 : Fr (bw :: obL v) w1 (w2.setCell ⟨bw, 0, none⟩ (.slice (some ⟨g, 0, none⟩) (l.length + 1) cap)) := (F2.mono (fun j hj => List.mem_cons_of_mem _ hj)).trans (Fr.set _ _ _ _) (fun j hj => .inl (by simp at hj; simp [hj]))
  have hgb : ∀ j, j ∈ obL (.slice (some ⟨g, 0, none⟩) (l.length + 1) cap) → j ∈ obL v ∨ w1.heap.size < j := by
    intro j hj
    have : j = g := by simpa [obL, Value.ownBlock] using hj
    subst this
    rcases HA.out with h | h
    · exact .inl ((mem_ob v j).2 h)
    · exact .inr (by omega)
  have hbe1 := HE1.out.lt
  have hbw1 := HV1.out.lt
  refine ⟨rfl, _, M', ⟨?_, HV2.out.set _, ?_, HS.out.nb, fun h => ?_, fun h => ?_, HS.out.b1, HS.out.b2⟩, ?_, ?_, HM'.out, fun j hj => ⟨?_, ?_, fun h => ?_⟩, fun j hj => ?_⟩
  · exact HE1.out.keep F3 (fun h => by
      rcases List.mem_cons.1 h with h | h
      · exact HS.out.nb h
      · exact HS.out.n1 h)
  · have := own_keep HO.out (Fr.set w2 bw 0 (.slice (some ⟨g, 0, none⟩) (l.length + 1) cap)) (fun j hj hm => by
      obtain rfl : j = bw := by simpa using hm
      rcases hgb j hj with h | h
      · exact HS.out.n2 h
      · omega)
    rw [List.flatMap_append, List.length_append]
    simpa [stepCr] using this
  · rcases hgb _ h with h | h
    · exact HS.out.n1 h
    · omega
  · rcases hgb _ h with h | h
    · exact HS.out.n2 h
    · omega
  · refine HC.out.keep _ _ _ _ _ HI1.out F3 (fun j hj => ⟨fun hm => ?_, ?_⟩)
    · rcases HM'.out j hm with h | h
      · obtain ⟨_, h2, h3⟩ := HM.out j h
        rcases List.mem_cons.1 hj with rfl | hj
        · exact h2 rfl
        · exact h3 hj
      · rcases List.mem_cons.1 hj with rfl | hj
        · have := HS.out.c.lt; omega
        · have := (HS.out.r.lt j ((mem_ob v j).1 hj)).2; omega
    · rcases List.mem_cons.1 hj with rfl | hj
      · exact HS.out.b2
      · exact (HS.out.r.lt j ((mem_ob v j).1 hj)).1
  · refine (HF1.out.mono (fun j hj => ?_)).trans F3 (fun j hj => .inl ?_)
    · simp [hj]
    · rcases List.mem_cons.1 hj with rfl | hj
      · simp
      · simp [hj]
  · rcases HM'.out j hj with h | h
    · exact (HM.out j h).1
    · have := HS.out.e.lt; omega
  · rcases HM'.out j hj with h | h
    · exact (HM.out j h).2.1
    · have := HS.out.c.lt; omega
  · rcases hgb j h with h' | h'
    · rcases HM'.out j hj with h2 | h2
      · exact (HM.out j h2).2.2 h'
      · have := (HS.out.r.lt j ((mem_ob v j).1 h')).2; omega
    · have := HC.out.lt _ _ _ HI1.out j hj; omega
  · rcases hgb j hj with h | h
    · exact .inl h
    · exact .inr (by omega)
mutual
def runTr {σ : Type} (en : Tr → σ → σ) (lv : σ → σ) : Tr → σ → σ
  | .node p d ks, s => lv (runLr en lv ks (en (.node p d ks) s))
def runLr {σ : Type} (en : Tr → σ → σ) (lv : σ → σ) : List Tr → σ → σ
  | [], s => s
  | t :: r, s => runLr en lv r (runTr en lv t s)
end
theorem runTr_eq {σ : Type} (en : Tr → σ → σ) (lv : σ → σ) (t : Tr) (s : σ) : runTr en lv t s = lv (runLr en lv t.ks (en t s)) := by cases t; rfl
/-- What is still to be done, by a stack. -/
def finr {σ : Type} (en : Tr → σ → σ) (lv : σ → σ) : List (Tr × Nat) → σ → σ
  | [], s => s
  | (t, i) :: U, s => finr en lv U (lv (runLr en lv (t.ks.drop i) s))
def todor : List (Tr × Nat) → List Tr
  | [] => []
  | (t, i) :: U => t.ks.drop i ++ todor U
/-- What holds at the head of walk's loop, when at most k rounds are to come. -/
structure Wkr {σ : Type} (base : Nat) (Inv : σ → List Nat → World → Prop) (en : Tr → σ → σ) (lv : σ → σ) (Q : Nat → List Tr → σ → Prop) (ec : List Value) (w : World) (M0 : List Nat) (fs : σ) (N be bw : Nat) (k : Nat) (wr : World) (v : Value) (U : List (Tr × Nat)) (s : σ) (M : List Nat) : Prop where
  st : Stkr wr be bw ec v (U.reverse.map fun x => (x.1.p, x.2)) base
  iv : Inv s M wr
  q : Q U.length (todor U) s
  f : finr en lv U s = fs
  t : ∀ x ∈ U, IsT w (· < base) x.1
  le : ∀ x ∈ U, x.2 ≤ x.1.ks.length
  m : ∀ j ∈ M, j ≠ be ∧ j ≠ bw ∧ j ∉ obL v
  n : cntL (todor U) + U.length ≤ N
  k : k = 2 * cntL (todor U) + U.length
  b : Below base w wr
  fr : Fr M0 w wr
  mn : ∀ j ∈ M, j ∈ M0 ∨ w.heap.size ≤ j
  vn : ∀ j ∈ obL v, w.heap.size ≤ j
  e1 : w.heap.size ≤ be
  e2 : w.heap.size ≤ bw
  bs : base ≤ w.heap.size
theorem Stkr.keep {w w' : World} {be bw : Nat} {ec : List Value} {v : Value} {l : List (Nat × Nat)} {base : Nat} {N : List Nat} (h : Stkr w be bw ec v l base) (hf : Fr N w w') (h1 : be ∉ N) (h2 : bw ∉ N) (h3 : ∀ j ∈ obL v, j ∉ N) : Stkr w' be bw ec v l base :=
  ⟨h.e.keep hf h1, h.c.keep hf h2, own_keep h.r hf h3, h.nb, h.n1, h.n2, h.b1, h.b2⟩
theorem Stkr.pop {w : World} {be bw : Nat} {ec : List Value} {g m cap : Nat} {l : List (Nat × Nat)} {x : Nat × Nat} {base : Nat} (h : Stkr w be bw ec (.slice (some ⟨g, 0, none⟩) (m + 1) cap) (l ++ [x]) base) (hl : l.length = m) :
    Stkr (w.setCell ⟨bw, 0, none⟩ (.slice (some ⟨g, 0, none⟩) m cap)) be bw ec (.slice (some ⟨g, 0, none⟩) m cap) l base := by
  obtain ⟨e, c, r, nb, n1, n2, b1, b2⟩ := h
  refine ⟨e.keep (Fr.set w bw 0 _) (by simpa using nb), c.set _, ?_, nb, n1, n2, b1, b2⟩
  rw [List.length_append, List.length_singleton, hl, List.flatMap_append] at r
  have h2 := own_cut r (.inl (by simp)) (Nat.le_succ m)
  rw [← hl, ← len_stepsr, List.take_left' rfl] at h2
  refine own_keep (M := [bw]) ?_ (Fr.set w bw 0 _) (fun j hj hm => ?_)
  · rw [← hl]; exact h2
  · obtain rfl : j = bw := by simpa using hm
    exact n2 hj
theorem Stkr.inc {w : World} {be bw : Nat} {ec : List Value} {g m cap : Nat} {l : List (Nat × Nat)} {p i : Nat} {base : Nat} (h : Stkr w be bw ec (.slice (some ⟨g, 0, none⟩) (m + 1) cap) (l ++ [(p, i)]) base) (hl : l.length = m) :
    Stkr (w.setCell ⟨g, m * 2 + 1, none⟩ (.int .i64 ((i : Int) + 1))) be bw ec (.slice (some ⟨g, 0, none⟩) (m + 1) cap) (l ++ [(p, i + 1)]) base := by
  obtain ⟨e, c, r, nb, n1, n2, b1, b2⟩ := h
  have hg : g ∈ obL (.slice (some ⟨g, 0, none⟩) (m + 1) cap) := by simp [obL, Value.ownBlock]
  refine ⟨e.keep (Fr.set w g _ _) (fun h => n1 (by simpa [obL, Value.ownBlock] using h)), c.keep (Fr.set w g _ _) (fun h => n2 (by simpa [obL, Value.ownBlock] using h)), ?_, nb, n1, n2, b1, b2⟩
  rw [List.length_append, List.length_singleton, hl] at r ⊢
  have h2 := r.stored (m * 2 + 1) (.int .i64 ((i : Int) + 1))
  have h3 : ((l ++ [(p, i)]).flatMap stepCr).set (m * 2 + 1) (.int .i64 ((i : Int) + 1)) = (l ++ [(p, i + 1)]).flatMap stepCr := by
    rw [List.flatMap_append, List.flatMap_append, List.set_append_right _ _ (by rw [len_stepsr, hl]; omega), len_stepsr, hl, show m * 2 + 1 - m * 2 = 1 by omega]
    simp [stepCr]
  rw [h3] at h2
  exact h2.1
theorem wk_popr {σ : Type} {base : Nat} {Inv : σ → List Nat → World → Prop} {en : Tr → σ → σ} {lv : σ → σ} {Q : Nat → List Tr → σ → Prop} {ec lc : List Value} (C : Clr base Inv en lv Q ec lc) {w wr w2 : World} {M0 : List Nat} {fs : σ} {N be bw k g m cap : Nat} {t : Tr} {i : Nat} {U : List (Tr × Nat)} {s : σ} {M : List Nat}
    (h : Wkr base Inv en lv Q ec w M0 fs N be bw k wr (.slice (some ⟨g, 0, none⟩) (m + 1) cap) ((t, i) :: U) s M) (hi : i = t.ks.length) (hm : U.length = m) (F : Fr [] wr w2) :
    Inv s M (w2.setCell ⟨bw, 0, none⟩ (.slice (some ⟨g, 0, none⟩) m cap)) ∧ Q (U.length + 1) (todor U) s ∧ base ≤ (w2.setCell ⟨bw, 0, none⟩ (.slice (some ⟨g, 0, none⟩) m cap)).heap.size ∧ ∀ w3 M3, Inv (lv s) M3 w3 → Fr M (w2.setCell ⟨bw, 0, none⟩ (.slice (some ⟨g, 0, none⟩) m cap)) w3 → (∀ j ∈ M3, j ∈ M ∨ (w2.setCell ⟨bw, 0, none⟩ (.slice (some ⟨g, 0, none⟩) m cap)).heap.size ≤ j) →
      2 * cntL (todor U) + U.length < k ∧ Wkr base Inv en lv Q ec w M0 fs N be bw (2 * cntL (todor U) + U.length) w3 (.slice (some ⟨g, 0, none⟩) m cap) U (lv s) M3 := by
  obtain ⟨st, iv, q, hf, ht, hle, hmm, hn, hk, hbl, hfr, hmn, hvn, he1, he2, hbs⟩ := h
  have hbw2 : base ≤ wr.heap.size := Nat.le_trans hbs hfr.size
  have hdrop : t.ks.drop i = [] := by rw [hi]; simp
  have htodo : todor ((t, i) :: U) = todor U := by show t.ks.drop i ++ _ = _; rw [hdrop]; rfl
  have hob : obL (.slice (some ⟨g, 0, none⟩) m cap) = obL (.slice (some ⟨g, 0, none⟩) (m + 1) cap) := rfl
  rw [htodo] at q hn hk
  have st2 := st.keep F (by simp) (by simp) (fun j _ => by simp)
  rw [List.reverse_cons, List.map_append] at st2
  have st3 := st2.pop (by simp [hm])
  have F2 : Fr [bw] wr (w2.setCell ⟨bw, 0, none⟩ (.slice (some ⟨g, 0, none⟩) m cap)) := (F.mono (fun j hj => by cases hj)).trans (Fr.set w2 bw 0 _) (fun j hj => .inl hj)
  have hi2 := C.keep _ _ _ _ _ iv F2 (fun j hj => by
    obtain rfl : j = bw := by simpa using hj
    exact ⟨fun hm => (hmm j hm).2.1 rfl, st.b2⟩)
  have hsz := F2.size
  refine ⟨hi2, q, by have := hbl.size; omega, fun w3 M3 hI3 F3 hM3 => ⟨by simp only [List.length_cons] at hk; omega, ?_⟩⟩
  have F4 : Fr (bw :: M) wr w3 := (F2.mono (fun j hj => by simp at hj; simp [hj])).trans F3 (fun j hj => .inl (by simp [hj]))
  have hwr : w.heap.size ≤ wr.heap.size := hfr.size
  have hlow : ∀ j ∈ M3, j ∈ M ∨ wr.heap.size ≤ j := fun j hj => by rcases hM3 j hj with h | h; exact .inl h; exact .inr (by omega)
  refine ⟨st3.keep F3 (fun h => (hmm _ h).1 rfl) (fun h => (hmm _ h).2.1 rfl) (fun j hj h => (hmm j h).2.2 (by rw [← hob]; exact hj)), hI3, C.qlev _ _ _ q, ?_, fun x hx => ht x (List.mem_cons_of_mem _ hx), fun x hx => hle x (List.mem_cons_of_mem _ hx), fun j hj => ?_, by simp only [List.length_cons] at hn; omega, rfl, ?_, ?_, fun j hj => ?_, hvn, he1, he2, hbs⟩
  · rw [← hf]
    show _ = finr en lv U (lv (runLr en lv (t.ks.drop i) s))
    rw [hdrop]; rfl
  · rcases hlow j hj with h | h
    · exact hmm j h
    · have h1 := st.e.lt
      have h2 := st.c.lt
      refine ⟨by omega, by omega, fun hj2 => ?_⟩
      have := (st.r.lt j ((mem_ob _ j).1 hj2)).2
      omega
  · exact hbl.trans (F4.below base (fun j hj => by
      rcases List.mem_cons.1 hj with rfl | hj
      · exact st.b2
      · exact C.big _ _ _ iv j hj) hbw2)
  · exact hfr.trans F4 (fun j hj => by
      rcases List.mem_cons.1 hj with rfl | hj
      · exact .inr he2
      · exact hmn j hj)
  · rcases hlow j hj with h | h
    · exact hmn j h
    · exact .inr (by omega)
theorem wk_pushr {σ : Type} {base : Nat} {Inv : σ → List Nat → World → Prop} {en : Tr → σ → σ} {lv : σ → σ} {Q : Nat → List Tr → σ → Prop} {ec lc : List Value} (C : Clr base Inv en lv Q ec lc) {w wr w2 w2' : World} {M0 : List Nat} {fs : σ} {N be bw k g m cap : Nat} {t kid : Tr} {i : Nat} {U : List (Tr × Nat)} {s : σ} {M : List Nat}
    (h : Wkr base Inv en lv Q ec w M0 fs N be bw k wr (.slice (some ⟨g, 0, none⟩) (m + 1) cap) ((t, i) :: U) s M) (hi : t.ks[i]? = some kid) (hm : U.length = m) (F : Fr [] wr w2) (F' : Fr [] (w2.setCell ⟨g, m * 2 + 1, none⟩ (.int .i64 ((i : Int) + 1))) w2') :
    Stkr w2' be bw ec (.slice (some ⟨g, 0, none⟩) (m + 1) cap) ((((t, i + 1) :: U).reverse.map fun x => (x.1.p, x.2))) base ∧ Inv s M w2' ∧ Q (U.length + 1) (kid :: (t.ks.drop (i + 1) ++ todor U)) s ∧ (∃ u, w2'.heap[kid.p]? = some (nodeO kid.d u)) ∧ kid.p < base ∧ base ≤ w2'.heap.size ∧
    ∀ w3 v3 M3, Stkr w3 be bw ec v3 ((((t, i + 1) :: U).reverse.map fun x => (x.1.p, x.2)) ++ [(kid.p, 0)]) base → Inv (en kid s) M3 w3 → Fr (bw :: (obL (.slice (some ⟨g, 0, none⟩) (m + 1) cap) ++ M)) w2' w3 → (∀ j ∈ M3, j ∈ M ∨ w2'.heap.size ≤ j) → (∀ j ∈ M3, j ≠ be ∧ j ≠ bw ∧ j ∉ obL v3) → (∀ j ∈ obL v3, j ∈ obL (.slice (some ⟨g, 0, none⟩) (m + 1) cap) ∨ w2'.heap.size ≤ j) →
      2 * cntL (todor ((kid, 0) :: (t, i + 1) :: U)) + ((kid, 0) :: (t, i + 1) :: U).length < k ∧ Wkr base Inv en lv Q ec w M0 fs N be bw (2 * cntL (todor ((kid, 0) :: (t, i + 1) :: U)) + ((kid, 0) :: (t, i + 1) :: U).length) w3 v3 ((kid, 0) :: (t, i + 1) :: U) (en kid s) M3 := by
  obtain ⟨st, iv, q, hf, ht, hle, hmm, hn, hk, hbl, hfr, hmn, hvn, he1, he2, hbs⟩ := h
  have hbw2 : base ≤ wr.heap.size := Nat.le_trans hbs hfr.size
  have hlt : i < t.ks.length := (List.getElem?_eq_some_iff.1 hi).1
  have hdrop : t.ks.drop i = kid :: t.ks.drop (i + 1) := by
    rw [List.drop_eq_getElem_cons hlt]
    rw [List.getElem?_eq_getElem hlt] at hi
    rw [Option.some.inj hi]
  have hkm : kid ∈ t.ks := List.mem_of_getElem? hi
  have htodo : todor ((t, i) :: U) = kid :: (t.ks.drop (i + 1) ++ todor U) := by show t.ks.drop i ++ _ = _; rw [hdrop]; rfl
  have htodo2 : todor ((kid, 0) :: (t, i + 1) :: U) = kid.ks ++ (t.ks.drop (i + 1) ++ todor U) := rfl
  have hkc : kid.cnt = 1 + cntL kid.ks := by cases kid; rfl
  rw [htodo] at q hn hk
  have st2 := st.keep F (by simp) (by simp) (fun j _ => by simp)
  rw [List.reverse_cons, List.map_append] at st2
  have st3 := (st2.inc (by simp [hm])).keep F' (by simp) (by simp) (fun j _ => by simp)
  have F2 : Fr [g] wr w2' := ((F.mono (N := [g]) (fun j hj => by cases hj)).trans (Fr.set w2 g _ _) (fun j hj => .inl hj)).trans F' (fun j hj => by cases hj)
  have hgo : g ∈ obL (.slice (some ⟨g, 0, none⟩) (m + 1) cap) := by simp [obL, Value.ownBlock]
  have hgb : base ≤ g := (st.r.lt g ((mem_ob _ g).1 hgo)).1
  have hi2 := C.keep _ _ _ _ _ iv F2 (fun j hj => by
    obtain rfl : j = g := by simpa using hj
    exact ⟨fun hm => (hmm j hm).2.2 hgo, hgb⟩)
  have hsz := F2.size
  have hwr : w.heap.size ≤ wr.heap.size := hfr.size
  have B2 : Below base w w2' := hbl.trans (F2.below base (fun j hj => by
    obtain rfl : j = g := by simpa using hj
    exact hgb) hbw2)
  have hkt : IsT w (· < base) kid := by
    have := ht (t, i) (by simp)
    obtain ⟨p, d, ks⟩ := t
    exact this.2.2.at kid hkm
  have hkp := hkt.lt kid.p (p_mem kid)
  refine ⟨?_, hi2, q, ?_, hkp.2, by omega, fun w3 v3 M3 hS3 hI3 F3 hM3 hm3 hv3 => ⟨?_, ?_⟩⟩
  · rw [List.reverse_cons, List.map_append]; exact st3
  · obtain ⟨p, d, ks⟩ := kid
    obtain ⟨a, ⟨u, hu, _⟩, _⟩ := hkt
    exact ⟨u, (B2.block p a).trans hu⟩
  · rw [htodo2, cntL_app]
    simp only [cntL, List.length_cons] at hk ⊢
    omega
  · have F4 : Fr (bw :: (obL (.slice (some ⟨g, 0, none⟩) (m + 1) cap) ++ M)) wr w3 := (F2.mono (fun j hj => by
      obtain rfl : j = g := by simpa using hj
      simp [hgo])).trans F3 (fun j hj => .inl hj)
    refine ⟨?_, hI3, ?_, ?_, fun x hx => ?_, fun x hx => ?_, hm3, ?_, rfl, ?_, ?_, fun j hj => ?_, fun j hj => ?_, he1, he2, hbs⟩
    · rw [List.reverse_cons, List.map_append]; exact hS3
    · exact C.qent _ _ _ _ q
    · rw [← hf]
      show finr en lv U (lv (runLr en lv (t.ks.drop (i + 1)) (lv (runLr en lv (kid.ks.drop 0) (en kid s))))) = finr en lv U (lv (runLr en lv (t.ks.drop i) s))
      rw [hdrop, List.drop_zero]
      show _ = finr en lv U (lv (runLr en lv (t.ks.drop (i + 1)) (runTr en lv kid s)))
      rw [runTr_eq]
    · rcases List.mem_cons.1 hx with rfl | hx
      · exact hkt
      · rcases List.mem_cons.1 hx with rfl | hx
        · exact ht (t, i) (by simp)
        · exact ht x (List.mem_cons_of_mem _ hx)
    · rcases List.mem_cons.1 hx with rfl | hx
      · exact Nat.zero_le _
      · rcases List.mem_cons.1 hx with rfl | hx
        · exact hlt
        · exact hle x (List.mem_cons_of_mem _ hx)
    · rw [htodo2, cntL_app]
      simp only [cntL, List.length_cons] at hn ⊢
      omega
    · exact hbl.trans (F4.below base (fun j hj => by
        rcases List.mem_cons.1 hj with rfl | hj
        · exact st.b2
        · rcases List.mem_append.1 hj with hj | hj
          · exact (st.r.lt j ((mem_ob _ j).1 hj)).1
          · exact C.big _ _ _ iv j hj) hbw2)
    · exact hfr.trans F4 (fun j hj => by
        rcases List.mem_cons.1 hj with rfl | hj
        · exact .inr he2
        · rcases List.mem_append.1 hj with hj | hj
          · exact .inr (hvn j hj)
          · exact hmn j hj)
    · rcases hM3 j hj with h | h
      · exact hmn j h
      · exact .inr (by omega)
    · rcases hv3 j hj with h | h
      · exact hvn j h
      · omega
theorem walk_r {σ : Type} {base : Nat} {Inv : σ → List Nat → World → Prop} {en : Tr → σ → σ} {lv : σ → σ} {Q : Nat → List Tr → σ → Prop} {x0 x1 x2 x3 : Value} (C : Clr base Inv en lv Q [x0, x1, x2] [x2, x1, x3])
    (s : σ) (M : List Nat) (w : World) (t : Tr) (hI : Inv s M w) (hQ : Q 0 [t] s) (hT : IsT w (· < base) t) (hc : t.cnt ≤ 1048576) (hb : base ≤ w.heap.size) :
    Calls Tryz.prog 19 #[ptrV t.p, .func (.func 39) #[] #[x0, x1, x2], .func (.func 40) #[] #[x2, x1, x3]] w fun e w' => e = .returned (.tuple #[]) ∧ ∃ M', Inv (runTr en lv t s) M' w' ∧ Fr M w w' ∧ (∀ j ∈ M', j ∈ M ∨ w.heap.size ≤ j) := by
  have hmf := fun (w : World) (e : Value) => True.intro
  have D0 : Fr [] w (w.alloc (.cells #[.func (.func 39) #[] #[x0, x1, x2]] 47)) := Fr.alloc _ _
  have D1 := Fr.alloc (w.alloc (.cells #[.func (.func 39) #[] #[x0, x1, x2]] 47)) (.cells #[.slice none 0 0] 75)
  have D2 := D0.trans D1 (fun j hj => .inl hj)
  have hbe : Var (w.alloc (.cells #[.func (.func 39) #[] #[x0, x1, x2]] 47)) w.heap.size 47 (.func (.func 39) #[] #[x0, x1, x2]) := heap_alloc_new _ _
  have hbw : Var ((w.alloc (.cells #[.func (.func 39) #[] #[x0, x1, x2]] 47)).alloc (.cells #[.slice none 0 0] 75)) (w.heap.size + 1) 75 (.slice none 0 0) := by
    have := heap_alloc_new (w.alloc (.cells #[.func (.func 39) #[] #[x0, x1, x2]] 47)) (.cells #[.slice none 0 0] 75)
    simpa [Var] using this
  have HS0 : Stkr ((w.alloc (.cells #[.func (.func 39) #[] #[x0, x1, x2]] 47)).alloc (.cells #[.slice none 0 0] 75)) w.heap.size (w.heap.size + 1) [x0, x1, x2] (.slice none 0 0) [] base :=
    ⟨hbe.keep D1 (by simp), hbw, World.ownsRow_nil _ _ _ _, by omega, by simp [obL, Value.ownBlock], by simp [obL, Value.ownBlock], hb, by omega⟩
  obtain ⟨p, d, ks⟩ := t
  obtain ⟨hp, ⟨u, hu, hrow⟩, hks⟩ := hT
  have HV := visit_r C s M _ w.heap.size (w.heap.size + 1) (.slice none 0 0) [] (.node p d ks) [] u 0 HS0 (C.keep _ _ _ _ _ hI D2 (fun j hj => by cases hj)) hQ (by
    have := D2.block p (lt_heap hu) (by simp)
    exact this.trans hu) hp (fun j hj => ⟨by have := C.lt _ _ _ hI j hj; omega, by have := C.lt _ _ _ hI j hj; omega, by simp [obL, Value.ownBlock]⟩) (by simp) (by have := D2.size; omega)
  have HC := Lib.hid C
  have HI := Lib.hid hI
  have HQ := Lib.hid hQ
  have HD := Lib.hid D2
  have HR := Lib.hid hrow
  have HU := Lib.hid hu
  have HK := Lib.hid hks
  clear C hI hQ D0 D1 D2 hbe hbw HS0 hmf hrow hu hks
  simp only [ptrV, Tr.p] at HV ⊢
  go_enter Tryz.func19, Tryz.ntmps19
  go_wp2_with fail
  refine HV.mono ?_
  rintro e w1 ⟨rfl, v1, M1, hS1, hI1, F1, g1, g2, g3⟩
  have FW : Fr M w w1 := (HD.out.mono (N := M) (fun j hj => by cases hj)).trans F1 (fun j hj => by
      rcases List.mem_cons.1 hj with h | h
      · exact .inr (by omega)
      · rcases List.mem_append.1 h with h | h
        · simp [obL, Value.ownBlock] at h
        · exact .inl h)
  have B1 : Below base w w1 := FW.below base (fun j hj => HC.out.big _ _ _ HI.out j hj) hb
  have W1 : Hid (Wkr base Inv en lv Q [x0, x1, x2] w M (runTr en lv (.node p d ks) s) (Tr.node p d ks).cnt w.heap.size (w.heap.size + 1) (2 * cntL ks + 1) w1 v1 [(.node p d ks, 0)] (en (.node p d ks) s) M1) := Lib.hid (by
    have hsz2 := HD.out.size
    have ecnt : cntL (todor [(Tr.node p d ks, 0)]) = cntL ks := by
      show cntL (ks.drop 0 ++ []) = _
      simp
    refine ⟨by simpa [Tr.p] using hS1, hI1, ?_, rfl, fun x hx => ?_, fun x hx => ?_, g2, ?_, by rw [ecnt]; rfl, B1, FW, fun j hj => ?_, fun j hj => ?_, Nat.le_refl _, by omega, hb⟩
    · have := HC.out.qent _ _ _ _ HQ.out
      exact this
    · obtain rfl : x = (Tr.node p d ks, 0) := by simpa using hx
      exact ⟨hp, ⟨u, HU.out, HR.out⟩, HK.out⟩
    · obtain rfl : x = (Tr.node p d ks, 0) := by simpa using hx
      exact Nat.zero_le _
    · rw [ecnt]; simp only [Tr.cnt, List.length_singleton]; omega
    · rcases g1 j hj with h | h
      · exact .inl h
      · exact .inr (by omega)
    · rcases g3 j hj with h | h
      · simp [obL, Value.ownBlock] at h
      · omega)
  have HT : Hid ((Tr.node p d ks).cnt ≤ 1048576) := Lib.hid hc
  clear HV hS1 hI1 F1 g1 g2 g3 B1 hc
  go_wp2_with fail
  go_loopg [8] (2 * cntL ks + 1) (fun k tp wr => ∃ (v : Value) (U : List (Tr × Nat)) (s' : σ) (M' : List Nat), Wkr base Inv en lv Q [x0, x1, x2] w M (runTr en lv (.node p d ks) s) (Tr.node p d ks).cnt w.heap.size (w.heap.size + 1) k wr v U s' M')
  case atStart => exact ⟨_, _, _, _, W1.out⟩
  case round =>
    obtain ⟨v, U, s', M', hW⟩ := hrel
    clear W1
    obtain ⟨st, iv, q, hf, ht, hle, hm, hn, hk, hbl, hfr, hmn, hvn, he1, he2, hbs⟩ := hW
    have hUl : U.length ≤ 1048576 := by have := HT.out; omega
    have hown := st.r
    have cbw := st.c.c
    have fbw := st.c.f
    have hlen : (U.reverse.map fun x => (x.1.p, x.2)).length = U.length := by simp
    cases U with
    | nil =>
      obtain ⟨q', cap, hv⟩ : ∃ q' cap, v = .slice q' 0 cap := by
        rcases hown.2 with ⟨h1, h2⟩ | ⟨g, cap, cur, e1, _⟩
        · exact ⟨none, 0, h1⟩
        · exact ⟨_, _, e1⟩
      subst hv
      have HF : Hid (∃ M', Inv (runTr en lv (.node p d ks) s) M' wr ∧ Fr M w wr ∧ (∀ j ∈ M', j ∈ M ∨ w.heap.size ≤ j)) := Lib.hid ⟨M', by rw [← hf]; exact iv, hfr, hmn⟩
      clear st iv q hf ht hle hm hn hbl hfr hmn hvn he1 he2 hbs hown hlen
      go_wp2_with fail
      go_end0
      exact ⟨rfl, HF.out⟩
    | cons x U =>
      obtain ⟨tx, i⟩ := x
      have hUl2 : U.length ≤ 1048575 := by simp at hUl; omega
      obtain ⟨g, cap, hv, hg1, hg2⟩ := hown.form (by rw [hlen]; simp)
      rw [hlen] at hv
      have hlen2 : ((tx, i) :: U).length = U.length + 1 := rfl
      rw [hlen2] at hv
      subst hv
      obtain ⟨A, hA⟩ : ∃ A, (U.reverse.map fun x : Tr × Nat => (x.1.p, x.2)).flatMap stepCr = A := ⟨_, rfl⟩
      have hAl : A.length = U.length * 2 := by
        rw [← hA, len_stepsr]; simp
      have hrow2 : ((((tx, i) :: U).reverse.map fun x : Tr × Nat => (x.1.p, x.2)).flatMap stepCr) = A ++ [ptrV tx.p, .int .i64 i] := by
        rw [List.reverse_cons, List.map_append, List.flatMap_append, hA]
        rfl
      rw [hrow2, hlen, hlen2] at hown
      have hUln : (U.reverse.map fun x : Tr × Nat => (x.1.p, x.2)).length = U.length := by simp
      obtain ⟨m, hm0⟩ : ∃ m, U.length = m := ⟨_, rfl⟩
      have HWK := Lib.hid (Wkr.mk st iv q hf ht hle hm hn hk hbl hfr hmn hvn he1 he2 hbs)
      have htx := ht (tx, i) (by simp)
      have hix := hle (tx, i) (by simp)
      simp only at htx hix
      obtain ⟨p', d', ks'⟩ := tx
      obtain ⟨hp', ⟨u', hu', hrw'⟩, hks'⟩ := htx
      have hN : NodeAt wr p' d' u' := ⟨(hbl.block p' hp').trans hu'⟩
      have cN := hN.c4
      have hrw2 : Row wr (· < base) u' (ks'.map Tr.p) := hrw'.keep (fun _ h _ => h) (fun j h _ => hbl.block j h)
      obtain ⟨q', cap', hu2⟩ := hrw2.form
      rw [List.length_map] at hu2
      subst hu2
      rw [hm0] at hAl hown hUl2
      have cA : wr.cell? ⟨g, m * 2, none⟩ = some (.pointer (some ⟨p', 0, none⟩)) := by
        rw [hown.cellAt (m * 2) (by omega), List.getElem?_append_right (by omega), hAl, Nat.sub_self]; rfl
      have cB : wr.cell? ⟨g, m * 2 + 1, none⟩ = some (.int .i64 i) := by
        rw [hown.cellAt (m * 2 + 1) (by omega), List.getElem?_append_right (by omega), hAl, show m * 2 + 1 - m * 2 = 1 by omega]; rfl
      have fB := hown.frozenAt (m * 2 + 1)
      obtain ⟨hcap1, hcap2⟩ := own_cap hown
      have HST := Lib.hid st
      have HIV := Lib.hid iv
      have HQ2 := Lib.hid q
      have HF := Lib.hid hf
      have HTT := Lib.hid ht
      have HLE := Lib.hid hle
      have HMM := Lib.hid hm
      have HNN := Lib.hid hn
      have HKK := Lib.hid hk
      have HBL := Lib.hid hbl
      have HFR := Lib.hid hfr
      have HMN := Lib.hid hmn
      have HVN := Lib.hid hvn
      have HE12 := Lib.hid (And.intro he1 he2)
      have HOW := Lib.hid hown
      have HAL := Lib.hid hAl
      have HAA := Lib.hid hA
      have HR2 := Lib.hid hrow2
      have HRW := Lib.hid hrw2
      have HKS := Lib.hid hks'
      have HU' := Lib.hid hu'
      have HM0 := Lib.hid hm0
      have HXB := Lib.hid hix
      clear st iv q hf ht hle hm hn hk hbl hfr hmn hvn he1 he2 hbs hown hAl hA hrow2 hrw2 hks' hu' hrw' hN hUln hlen hlen2 hUl
      rw [hm0] at cbw HWK
      clear hm0
      have hks3 : ks'.length ≤ 9223372036854775807 := by
        have := Row.len_le HRW.out
        rwa [List.length_map] at this
      have hix' : i ≤ ks'.length := HXB.out
      by_cases hlast : i = ks'.length
      · have tq : ((i : Int) == (ks'.length : Int)) = true := beq_iff_eq.2 (by omega)
        have HL := Lib.hid hlast
        clear hlast
        go_wp2_with fail
        go_quiet (fail)
        have hpop := wk_popr HC.out HWK.out HL.out HM0.out (Fr.drewN wr nq)
        obtain ⟨hI3, hQ3, hb3, hnext⟩ := hpop
        have HLV := HC.out.lev _ _ _ _ _ hI3 hQ3 hb3
        have HNX := Lib.hid hnext
        clear hI3 hQ3 hb3 hnext
        go_wp2_with fail
        refine HLV.mono ?_
        rintro e w3 ⟨rfl, M3, hI3, F3, hM3⟩
        obtain ⟨hk1, hW3⟩ := HNX.out w3 M3 hI3 F3 hM3
        have HW3 := Lib.hid hW3
        clear hI3 F3 hM3 hW3 HLV
        go_wp2_with fail
        go_roundg (2 * cntL (todor U) + U.length)
        case measure => exact hk1
        case rel => exact ⟨_, _, _, _, HW3.out⟩
      · have tq : ((i : Int) == (ks'.length : Int)) = false := beq_eq_false_iff_ne.2 (by omega)
        have hlt : i < ks'.length := by omega
        have hkid : ks'[i]? = some ks'[i] := List.getElem?_eq_getElem hlt
        obtain ⟨kid, hkd⟩ : ∃ kid, ks'[i] = kid := ⟨_, rfl⟩
        rw [hkd] at hkid
        have hkid2 : (Tr.node p' d' ks').ks[i]? = some kid := hkid
        obtain ⟨gk, cK, hqq, cK⟩ := Row.cell HRW.out i kid.p (by rw [List.getElem?_map, hkid]; rfl)
        have hq2 : q' = some ⟨gk, 0, none⟩ := by injection hqq
        subst hq2
        have hgk : gk < base := HRW.out.2 gk rfl
        have hgg : base ≤ g := hg1
        have hne1 : p' ≠ g := by omega
        have hne2 : gk ≠ g := by omega
        have HKD := Lib.hid hkid2
        clear hqq hkd hkid hkid2
        go_wp2_with fail
        go_quiet (fail)
        go_wp2_with fail
        have HPU := fun (w2' : World) F' => wk_pushr HC.out HWK.out HKD.out HM0.out (Fr.drewN wr nq) (w2' := w2') F'
        have d1 : ((wr.drewN nq).setCell ⟨g, m * 2 + 1, none⟩ (.int .i64 ((i : Int) + 1))).cell? ⟨g, m * 2, none⟩ = some (.pointer (some ⟨p', 0, none⟩)) := by
          rw [cell_other _ _ _ _ _ _ (by omega)]; exact cA
        have d2 : ((wr.drewN nq).setCell ⟨g, m * 2 + 1, none⟩ (.int .i64 ((i : Int) + 1))).cell? ⟨g, m * 2 + 1, none⟩ = some (.int .i64 ((i : Int) + 1)) :=
          cell_same _ _ _ (.int .i64 i) _ cB
        have d3 : ((wr.drewN nq).setCell ⟨g, m * 2 + 1, none⟩ (.int .i64 ((i : Int) + 1))).cell? ⟨p', 4, none⟩ = some (.slice (some ⟨gk, 0, none⟩) ks'.length cap') := by
          rw [cell_other _ _ _ _ _ _ (by omega)]; exact cN
        have d4 : ((wr.drewN nq).setCell ⟨g, m * 2 + 1, none⟩ (.int .i64 ((i : Int) + 1))).cell? ⟨gk, i, none⟩ = some (.pointer (some ⟨kid.p, 0, none⟩)) := by
          rw [cell_other _ _ _ _ _ _ (by omega)]; exact cK
        have hwi : IntKind.i64.wrap ((i : Int) + 1 - 1) = (i : Int) := by rw [wrap_i64 _ (by omega) (by omega)]; omega
        have hwi2 : IntKind.i64.wrap (i : Int) = (i : Int) := wrap_i64 _ (by omega) (by omega)
        have hi0 : (0 : Int) ≤ (i : Int) := by omega
        have hi1 : (i : Int) < (ks'.length : Int) := by omega
        have HV := fun (w2' : World) F' => visit_r HC.out s' M' w2' w.heap.size (w.heap.size + 1) (.slice (some ⟨g, 0, none⟩) (m + 1) cap) _ kid _ (HPU w2' F').2.2.2.1.choose _ (HPU w2' F').1 (HPU w2' F').2.1 (HPU w2' F').2.2.1 (HPU w2' F').2.2.2.1.choose_spec (HPU w2' F').2.2.2.2.1 HMM.out (by have := HM0.out; simp; omega) (HPU w2' F').2.2.2.2.2.1
        have HP2 := Lib.hid (fun (w2' : World) F' => (HPU w2' F').2.2.2.2.2.2)
        clear HPU
        simp only [ptrV] at HV
        generalize (wr.drewN nq).setCell ⟨g, m * 2 + 1, none⟩ (.int .i64 ((i : Int) + 1)) = wS at *
        have HVD := HV wS.drew (Fr.drew wS)
        have HPD := Lib.hid (HP2.out wS.drew (Fr.drew wS))
        clear HV HP2
        clear cbw fbw cA cB fB cN cK tq hks3 hix' hUl2 hcap1 hcap2 hlt
        go_still_tail 15, (by kernel_rfl)
        change wpList _ _ _ _ _ wS.drew
        go_wp2_with fail
        refine HVD.mono ?_
        rintro e w3 ⟨rfl, v3, M3, hS3, hI3, F3, g1, g2, g3⟩
        have hnx := HPD.out w3 v3 M3 hS3 hI3 F3 g1 g2 g3
        have HNX := Lib.hid hnx
        clear hS3 hI3 F3 g1 g2 g3 hnx HVD
        go_wp2_with fail
        go_roundg (2 * cntL (todor ((kid, 0) :: (Tr.node p' d' ks', i + 1) :: U)) + ((kid, 0) :: (Tr.node p' d' ks', i + 1) :: U).length)
        case measure => exact HNX.out.1
        case rel => exact ⟨_, _, _, _, HNX.out.2⟩
end Go.Proofs.YtbfclibjnanlgaaGreatDoor
