/- Several texts in one. -/
import Derived.Test.YtbfclibjnanlgaaGreatDoorTwBr
/- tree.rising, walked. -/
namespace Go.Proofs.YtbfclibjnanlgaaGreatDoor
open Go.RowKit
set_option maxHeartbeats 2000000
set_option maxRecDepth 100000
set_option linter.unusedVariables false

theorem infoP : (Tryz.prog.info? 25).map (fun i => (i.zero, i.size, i.bytes)) = some (some (.pointer none), 1, 8) := by kernel_rfl
theorem zeroI (w : World) : (zeroValue 3).run Tryz.prog w = .ok (.int .i64 0) w := by kernel_rfl
/-- What is visited, the way from above, the nodes that are done. -/
structure Rs where
  vis : List Nat
  way : List Nat
  l : List Nat
def Rs.en (t : Tr) (s : Rs) : Rs := ⟨t.p :: s.vis, s.way ++ [t.p], s.l⟩
def Rs.lv (s : Rs) : Rs := ⟨s.vis, s.way.dropLast, s.l ++ [s.way.getLast?.getD 0]⟩
def Rs.Q (n : Nat) (l : List Tr) (s : Rs) : Prop := (nodesL l).Nodup ∧ (∀ p ∈ nodesL l, p ∉ s.vis) ∧ s.way.length = n ∧ s.vis.length + cntL l ≤ 1048576
/-- Where rising keeps its state. -/
structure RI (base be bs bm bw bl : Nat) (s : Rs) (M : List Nat) (w : World) (wv lv : Value) (f : Option Nat → Value) : Prop where
  m : M = be :: bs :: bm :: bw :: bl :: (obL wv ++ obL lv)
  e : Var w be 4 (.bool false)
  st : Var w bs 74 (.map (some bm))
  p : PMap w encP (okNd base) bm (.int .i64 0) f
  z : ∀ p, p ∉ s.vis → f (some p) = .int .i64 0
  vw : Var w bw 42 wv
  rw : Row w (base ≤ ·) wv s.way
  vl : Var w bl 42 lv
  rl : Row w (base ≤ ·) lv s.l
  d : ∀ j ∈ obL wv, j ∉ obL lv
  dw : ∀ j ∈ obL wv, j ≠ be ∧ j ≠ bs ∧ j ≠ bm ∧ j ≠ bw ∧ j ≠ bl
  dl : ∀ j ∈ obL lv, j ≠ be ∧ j ≠ bs ∧ j ≠ bm ∧ j ≠ bw ∧ j ≠ bl
  dd : be ≠ bs ∧ be ≠ bm ∧ be ≠ bw ∧ be ≠ bl ∧ bs ≠ bm ∧ bs ≠ bw ∧ bs ≠ bl ∧ bm ≠ bw ∧ bm ≠ bl ∧ bw ≠ bl
  b : base ≤ be ∧ base ≤ bs ∧ base ≤ bm ∧ base ≤ bw ∧ base ≤ bl
  n : s.way.length + s.l.length ≤ s.vis.length
  nd : ∀ p ∈ s.way, p < base ∧ ∃ d v, w.heap[p]? = some (nodeO d v)
  sub : ∀ p ∈ s.way, p ∈ s.vis
theorem ri_keep {base be bs bm bw bl : Nat} {s : Rs} {M : List Nat} {w w' : World} {wv lv : Value} {f : Option Nat → Value} {N : List Nat} (h : RI base be bs bm bw bl s M w wv lv f) (hf : Fr N w w') (hN : ∀ j ∈ N, j ∉ M ∧ base ≤ j) : RI base be bs bm bw bl s M w' wv lv f := by
  have hb : base ≤ w.heap.size := by have := h.e.lt; have := h.b; omega
  have B : Below base w w' := hf.below base (fun j hj => (hN j hj).2) hb
  obtain ⟨m, e, st, p, z, vw, rw, vl, rl, d, dw, dl, dd, b, n, nd, sub⟩ := h
  have nm : ∀ j ∈ M, j ∉ N := fun j hj hn => (hN j hn).1 hj
  subst m
  exact ⟨rfl, e.keep hf (nm _ (by simp)), st.keep hf (nm _ (by simp)), p.keep (hf.block bm p.lt (nm _ (by simp))) (fun a ha => ha.below B), z, vw.keep hf (nm _ (by simp)), rw.frame hf (fun j hj => nm j (by simp [hj])), vl.keep hf (nm _ (by simp)), rl.frame hf (fun j hj => nm j (by simp [hj])), d, dw, dl, dd, b, n, fun p hp => by
    obtain ⟨h1, d, v, h2⟩ := nd p hp
    exact ⟨h1, d, v, (B.block p h1).trans h2⟩, sub⟩
theorem ri_lt {base be bs bm bw bl : Nat} {s : Rs} {M : List Nat} {w : World} {wv lv : Value} {f : Option Nat → Value} (h : RI base be bs bm bw bl s M w wv lv f) : ∀ j ∈ M, j < w.heap.size ∧ base ≤ j := by
  obtain ⟨m, e, st, p, z, vw, rw, vl, rl, d, dw, dl, dd, b, n, nd, sub⟩ := h
  subst m
  intro j hj
  simp only [List.mem_cons, List.mem_append] at hj
  rcases hj with rfl | rfl | rfl | rfl | rfl | hj | hj
  · exact ⟨e.lt, b.1⟩
  · exact ⟨st.lt, b.2.1⟩
  · exact ⟨p.lt, b.2.2.1⟩
  · exact ⟨vw.lt, b.2.2.2.1⟩
  · exact ⟨vl.lt, b.2.2.2.2⟩
  · exact ⟨(rw.base j hj).2, (rw.base j hj).1⟩
  · exact ⟨(rl.base j hj).2, (rl.base j hj).1⟩
theorem new1 (w : World) (u : Value) (T : TypeId) : ∀ j v, [u][j]? = some v → (w.alloc (.cells #[u] T)).cell? ((⟨w.heap.size, 0, none⟩ : Addr).add j) = some v := by
  intro j v hj
  match j, hj with
  | 0, hj => simp at hj; subst hj; simp [Addr.add]
theorem one1 (p : Nat) : ∀ u ∈ [ptrV p], u.oneCell' = true := fun u hu => by
  simp at hu; subst hu; rfl
/-- What holds behind rising$1. -/
theorem rising1_end (base be bs bm bw bl : Nat) (s : Rs) (M : List Nat) (w : World) (wv lv : Value) (f : Option Nat → Value) (h : RI base be bs bm bw bl s M w wv lv f) (p : Nat) (d : ND) (v : Value) (hv : p ∉ s.vis) (hn : w.heap[p]? = some (nodeO d v)) (hp : p < base)
    (w2 : World) (pm2 : PMap w2 encP (okNd base) bm (.int .i64 0) (fun a => if a = some p then .int .i64 1 else f a)) (g2 : (w.setCell ⟨be, 0, none⟩ (.bool false)).grownBy w2 (some bm))
    (g cap : Nat) (w3 : World) (hown : w3.ownsRow 0 25 1 (.slice (some ⟨g, 0, none⟩) (s.way.length + 1) cap) (s.way.length + 1) (s.way.map ptrV ++ [ptrV p]))
    (hgrow : (w2.alloc (.cells #[ptrV p] 25)).grownBy w3 wv.ownBlock) (hat : wv.ownBlock = some g ∨ w2.heap.size + 1 ≤ g) :
    ∃ M' wv' f', RI base be bs bm bw bl ⟨p :: s.vis, s.way ++ [p], s.l⟩ M' (w3.setCell ⟨bw, 0, none⟩ (.slice (some ⟨g, 0, none⟩) (s.way.length + 1) cap)) wv' lv f' ∧ Fr M w (w3.setCell ⟨bw, 0, none⟩ (.slice (some ⟨g, 0, none⟩) (s.way.length + 1) cap)) ∧ ∀ j ∈ M', j ∈ M ∨ w.heap.size ≤ j := by
  have hlt := ri_lt h
  have hbs : base ≤ w.heap.size := by have := h.e.lt; have := h.b; omega
  obtain ⟨m, e, st, pm, z, vw, rw, vl, rl, dj, dw, dl, dd, b, n, nd, sub⟩ := h
  generalize hwv : Value.slice (some ⟨g, 0, none⟩) (s.way.length + 1) cap = wv' at *
  have hob : ∀ j, j ∈ obL wv' → j = g := fun j hj => by rw [← hwv] at hj; simpa [obL, Value.ownBlock] using hj
  have F1 := Fr.set w be 0 (.bool false)
  have F2 := Fr.of_grown g2
  have F3 : Fr (obL wv) w2 w3 := ((Fr.alloc w2 (.cells #[ptrV p] 25)).mono (N := obL wv) (fun j hj => by cases hj)).trans (Fr.of_grown hgrow) (fun j hj => .inl hj)
  have F4 := Fr.set w3 bw 0 wv'
  have F24 : Fr (bw :: obL wv) w2 (w3.setCell ⟨bw, 0, none⟩ wv') := (F3.mono (fun j hj => List.mem_cons_of_mem _ hj)).trans F4 (fun j hj => .inl (by simp at hj; simp [hj]))
  have F14 : Fr (bm :: bw :: obL wv) (w.setCell ⟨be, 0, none⟩ (.bool false)) (w3.setCell ⟨bw, 0, none⟩ wv') := (F2.mono (fun j hj => by simp at hj; simp [hj])).trans F24 (fun j hj => .inl (List.mem_cons_of_mem _ hj))
  have F04 : Fr (be :: bm :: bw :: obL wv) w (w3.setCell ⟨bw, 0, none⟩ wv') := (F1.mono (fun j hj => by simp at hj; simp [hj])).trans F14 (fun j hj => .inl (List.mem_cons_of_mem _ hj))
  have hs0 := F1.size
  have hs2 := F2.size
  have hs3 := F3.size
  have hgl : g ∈ obL wv ∨ w.heap.size < g := by
    rcases hat with h | h
    · exact .inl ((mem_ob wv g).2 h)
    · exact .inr (by omega)
  obtain ⟨d1, d2, d3, d4, d5, d6, d7, d8, d9, d10⟩ := dd
  obtain ⟨b1, b2, b3, b4, b5⟩ := b
  have l1 := e.lt
  have l2 := st.lt
  have l3 := pm.lt
  have l4 := vw.lt
  have l5 := vl.lt
  have B04 : Below base w (w3.setCell ⟨bw, 0, none⟩ wv') := F04.below base (fun j hj => by
    simp only [List.mem_cons] at hj
    rcases hj with rfl | rfl | rfl | hj
    · exact b1
    · exact b3
    · exact b4
    · exact (rw.base j hj).1) hbs
  have B24 : Below base w2 (w3.setCell ⟨bw, 0, none⟩ wv') := F24.below base (fun j hj => by
    simp only [List.mem_cons] at hj
    rcases hj with rfl | hj
    · exact b4
    · exact (rw.base j hj).1) (by omega)
  refine ⟨_, wv', _, ⟨rfl, ?_, ?_, pm2.keep (F24.block bm pm2.lt (fun h => ?_)) (fun a ha => ha.below B24), fun q hq => ?_, ?_, ⟨?_, fun j hj => ?_⟩, ?_, ?_, fun j hj => ?_, fun j hj => ?_, dl, ⟨d1, d2, d3, d4, d5, d6, d7, d8, d9, d10⟩, ⟨b1, b2, b3, b4, b5⟩, ?_, fun q hq => ?_, fun q hq => ?_⟩, F04.mono fun j hj => ?_, fun j hj => ?_⟩
  · exact (e.set _).keep F14 (fun h => by
      simp only [List.mem_cons] at h
      rcases h with h | h | h
      · exact d2 h
      · exact d3 h
      · exact (dw _ h).1 rfl)
  · exact st.keep F04 (fun h => by
      simp only [List.mem_cons] at h
      rcases h with h | h | h | h
      · exact d1 h.symm
      · exact d5 h
      · exact d6 h
      · exact (dw _ h).2.1 rfl)
  · simp only [List.mem_cons] at h
    rcases h with h | h
    · exact d8 h
    · exact (dw _ h).2.2.1 rfl
  · simp only [List.mem_cons, not_or] at hq
    rw [if_neg (fun e => hq.1 (by injection e))]
    exact z q hq.2
  · have hv2 : Var w2 bw 42 wv := (vw.keep F1 (by simp; exact fun e => d3 e.symm)).keep F2 (by simp; exact fun e => d8 e.symm)
    exact (hv2.keep F3 (fun h => (dw _ h).2.2.2.1 rfl)).set _
  · have h2 := own_keep hown F4 (fun j hj hm => by
      obtain rfl : j = bw := by simpa using hm
      have := hob _ hj
      subst this
      rcases hgl with h | h
      · exact (dw _ h).2.2.2.1 rfl
      · omega)
    rw [List.length_append, List.map_append]
    exact h2
  · have := hob j ((mem_ob wv' j).2 hj)
    subst this
    rcases hgl with h | h
    · exact (rw.base _ h).1
    · show base ≤ j; omega
  · exact vl.keep F04 (fun h => by
      simp only [List.mem_cons] at h
      rcases h with h | h | h | h
      · exact d4 h.symm
      · exact d9 h.symm
      · exact d10 h.symm
      · exact (dw _ h).2.2.2.2 rfl)
  · exact rl.frame F04 (fun j hj h => by
      simp only [List.mem_cons] at h
      obtain ⟨q1, q2, q3, q4, q5⟩ := dl j hj
      rcases h with h | h | h | h
      · exact q1 h
      · exact q3 h
      · exact q4 h
      · exact dj j h hj)
  · have := hob j hj
    subst this
    intro hl
    rcases hgl with h | h
    · exact dj _ h hl
    · have := (rl.base _ hl).2; omega
  · have := hob j hj
    subst this
    rcases hgl with h | h
    · exact dw _ h
    · omega
  · simp only [List.length_append, List.length_cons, List.length_nil]; omega
  · rcases List.mem_append.1 hq with hq | hq
    · obtain ⟨h1, d', v', h2⟩ := nd q hq
      exact ⟨h1, d', v', (B04.block q h1).trans h2⟩
    · obtain rfl : q = p := by simpa using hq
      exact ⟨hp, d, v, (B04.block q hp).trans hn⟩
  · rcases List.mem_append.1 hq with hq | hq
    · exact List.mem_cons_of_mem _ (sub q hq)
    · obtain rfl : q = p := by simpa using hq
      exact List.mem_cons_self
  · rw [m]
    simp only [List.mem_cons, List.mem_append] at hj ⊢
    rcases hj with h | h | h | h
    · exact .inl h
    · exact .inr (.inr (.inl h))
    · exact .inr (.inr (.inr (.inl h)))
    · exact .inr (.inr (.inr (.inr (.inr (.inl h)))))
  · rw [m]
    simp only [List.mem_cons, List.mem_append] at hj ⊢
    rcases hj with h | h | h | h | h | h | h
    · exact .inl (.inl h)
    · exact .inl (.inr (.inl h))
    · exact .inl (.inr (.inr (.inl h)))
    · exact .inl (.inr (.inr (.inr (.inl h))))
    · exact .inl (.inr (.inr (.inr (.inr (.inl h)))))
    · have := hob j h
      subst this
      rcases hgl with h | h
      · exact .inl (.inr (.inr (.inr (.inr (.inr (.inl h))))))
      · exact .inr (by omega)
    · exact .inl (.inr (.inr (.inr (.inr (.inr (.inr h))))))
/-- A node is entered. -/
theorem rising1 (base be bs bm bw bl : Nat) (s : Rs) (M : List Nat) (w : World) (wv lv : Value) (f : Option Nat → Value) (h : RI base be bs bm bw bl s M w wv lv f) (p : Nat) (d : ND) (v : Value) (hv : p ∉ s.vis) (hn : w.heap[p]? = some (nodeO d v)) (hp : p < base) (hc : s.vis.length ≤ 1048576) :
    Calls Tryz.prog 39 #[ptrV p, .pointer (some ⟨be, 0, none⟩), .pointer (some ⟨bs, 0, none⟩), .pointer (some ⟨bw, 0, none⟩)] w fun e w' => e = .returned (.bool true) ∧ ∃ M' wv' f', RI base be bs bm bw bl ⟨p :: s.vis, s.way ++ [p], s.l⟩ M' w' wv' lv f' ∧ Fr M w w' ∧ ∀ j ∈ M', j ∈ M ∨ w.heap.size ≤ j := by
  obtain ⟨i0, hi, hz0, hz1, hz2⟩ := info_parts infoP
  have hlt := ri_lt h
  have hbs : base ≤ w.heap.size := by have := h.e.lt; have := h.b; omega
  have HR := Lib.hid h
  have HNP := Lib.hid hn
  obtain ⟨m, e, st, pm, z, vw, rw, vl, rl, dj, dw, dl, dd, b, n, nd, sub⟩ := h
  have hok : okNd base w (some p) := fun q hq => by
    obtain rfl : p = q := by simpa using hq
    exact ⟨hp, _, _, hn⟩
  have hz := z p hv
  have L0 := pm.lookup (keyP base) Tryz.underlying74 (zeroI w) (some p) hok
  rw [hz] at L0
  have F1 := Fr.set w be 0 (.bool false)
  have B1 : Below base w (w.setCell ⟨be, 0, none⟩ (.bool false)) := F1.below base (fun j hj => by
    obtain rfl : j = be := by simpa using hj
    exact b.1) hbs
  have pm1 : PMap (w.setCell ⟨be, 0, none⟩ (.bool false)) encP (okNd base) bm (.int .i64 0) f := pm.keep (F1.block bm pm.lt (by simp; exact fun e => dd.2.1 e.symm)) (fun a ha => ha.below B1)
  have L1 := pm1.lookup (keyP base) Tryz.underlying74 (zeroI _) (some p) (hok.below B1)
  rw [hz] at L1
  obtain ⟨w2, U1, pm2, g2⟩ := pm1.update (keyP base) Tryz.underlying74 (some p) (hok.below B1) (.int .i64 1)
  have e1 : Var (w.setCell ⟨be, 0, none⟩ (.bool false)) be 4 (.bool false) := e.set _
  have s1 := st.keep F1 (by simp; exact fun e => dd.1 e.symm)
  have w1 := vw.keep F1 (by simp; exact fun e => dd.2.2.1 e.symm)
  have F2 := Fr.of_grown g2
  have w2v := w1.keep F2 (by simp; exact fun e => dd.2.2.2.2.2.2.2.1 e.symm)
  have r2 := (rw.frame F1 (fun j hj => by simp; exact (dw j hj).1)).frame F2 (fun j hj => by simp; exact (dw j hj).2.2.1)
  have c0 := e.c
  have f0 := e.f
  have c1 := st.c
  have c2 := e1.c
  have c3 := s1.c
  have c4 := w2v.c
  have hs2 := g2.size
  have hs1 := F1.size
  simp only [encP, ptrV] at L0 L1 U1
  have HX := Lib.hid (And.intro pm2 (And.intro g2 (And.intro w2v r2)))
  have HZ := Lib.hid (And.intro hz hok)
  have HRW := Lib.hid rw
  have hbwn : bw ∉ obL wv := fun h => (dw bw h).2.2.2.1 rfl
  have HBW := Lib.hid hbwn
  have HWL := Lib.hid (And.intro w1 (And.intro s1 e1))
  have hwl : s.way.length ≤ 1048576 := by omega
  have hro := r2.1.alloc (.cells #[ptrV p] 25)
  have HN1 := Lib.hid (new1 w2 (ptrV p) 25)
  have HO1 := Lib.hid (one1 p)
  clear m e st pm z vw rw vl rl dj dw dl dd nd sub hz hbwn F1 B1 pm1 pm2 g2 e1 s1 w1 F2 w2v r2 hn
  simp only [ptrV] at hro HN1 HO1 ⊢
  go_enter Tryz.func39, Tryz.ntmps39
  go_wp2_with ((at_builtin; refine wpList_append_lies _ rfl _ _ 42 rfl 0 25 i0 _ 1 8 Tryz.underlying42 hi hz0 hz1 hz2 rfl (by decide) wv s.way.length (s.way.map ptrV) rfl hro ⟨w2.heap.size, 0, none⟩ 1 1 [.pointer (some ⟨p, 0, none⟩)] rfl rfl HN1.out HO1.out (by decide) (by unfold maxLen; omega) (by omega) (by simp <;> omega) (w2.heap.size + 1) (by simp) ?_))
  intro g cap w3 hown hgrow hat hlt3
  have hV3 : Var w3 bw 42 wv := (HX.out.2.2.1.keep (Fr.alloc _ _) (by simp)).keep (Fr.of_grown hgrow) (fun h => HBW.out h)
  have c5 := hV3.c
  have f5 := hV3.f
  have HG := Lib.hid hgrow
  have HO := Lib.hid hown
  have HA := Lib.hid hat
  have HV3 := Lib.hid hV3
  clear hgrow hown hat hV3 hro
  go_wp2_with fail
  go_ret
  exact ⟨rfl, rising1_end base be bs bm bw bl s M w wv lv f HR.out p d v hv HNP.out hp w2 HX.out.1 HX.out.2.1 g cap w3 HO.out HG.out (HA.out.imp_right (fun h => Nat.le_of_eq h.symm))⟩
end Go.Proofs.YtbfclibjnanlgaaGreatDoor
/- tree.rising, walked: a node is left. -/
namespace Go.Proofs.YtbfclibjnanlgaaGreatDoor
open Go.RowKit
set_option maxHeartbeats 2000000
set_option maxRecDepth 100000
set_option linter.unusedVariables false

/-- What holds behind rising$2. -/
theorem rising2_end (base be bs bm bw bl : Nat) (s : Rs) (M : List Nat) (w : World) (g m cap : Nat) (lv : Value) (f : Option Nat → Value) (h : RI base be bs bm bw bl s M w (.slice (some ⟨g, 0, none⟩) (m + 1) cap) lv f) (A : List Nat) (p : Nat) (hw : s.way = A ++ [p]) (hA : A.length = m)
    (w2 : World) (pm2 : PMap w2 encP (okNd base) bm (.int .i64 0) (fun a => if a = some p then .int .i64 2 else f a)) (g2 : (w.setCell ⟨bw, 0, none⟩ (.slice (some ⟨g, 0, none⟩) m cap)).grownBy w2 (some bm))
    (gl capl : Nat) (w3 : World) (hown : w3.ownsRow 0 25 1 (.slice (some ⟨gl, 0, none⟩) (s.l.length + 1) capl) (s.l.length + 1) (s.l.map ptrV ++ [ptrV p]))
    (hgrow : (w2.alloc (.cells #[ptrV p] 25)).grownBy w3 lv.ownBlock) (hat : lv.ownBlock = some gl ∨ w2.heap.size + 1 ≤ gl) :
    ∃ M' wv' lv' f', RI base be bs bm bw bl ⟨s.vis, A, s.l ++ [p]⟩ M' (w3.setCell ⟨bl, 0, none⟩ (.slice (some ⟨gl, 0, none⟩) (s.l.length + 1) capl)) wv' lv' f' ∧ Fr M w (w3.setCell ⟨bl, 0, none⟩ (.slice (some ⟨gl, 0, none⟩) (s.l.length + 1) capl)) ∧ ∀ j ∈ M', j ∈ M ∨ w.heap.size ≤ j := by
  have hlt := ri_lt h
  have hbs : base ≤ w.heap.size := by have := h.e.lt; have := h.b; omega
  obtain ⟨hm, e, st, pm, z, vw, rw, vl, rl, dj, dw, dl, dd, b, n, nd, sub⟩ := h
  have hrow : w.ownsRow 0 25 1 (.slice (some ⟨g, 0, none⟩) m cap) m (A.map ptrV) := by
    have h1 := rw.1
    rw [hw, List.length_append, List.length_singleton, hA, List.map_append] at h1
    have h2 := own_cut h1 (.inl (by simp)) (Nat.le_succ m)
    rw [List.take_left' (by rw [List.length_map, hA]; omega)] at h2
    exact h2
  have hg : base ≤ g ∧ g < w.heap.size := rw.base g (by simp [obL, Value.ownBlock])
  have hdg : ∀ j, j ∈ obL (.slice (some ⟨g, 0, none⟩) (m + 1) cap) ↔ j = g := fun j => by simp [obL, Value.ownBlock]
  have hdg' : ∀ j, j ∈ obL (.slice (some ⟨g, 0, none⟩) m cap) ↔ j = g := fun j => by simp [obL, Value.ownBlock]
  obtain ⟨q1, q2, q3, q4, q5⟩ := dw g ((hdg g).2 rfl)
  have q6 := dj g ((hdg g).2 rfl)
  generalize hlv : Value.slice (some ⟨gl, 0, none⟩) (s.l.length + 1) capl = lv' at *
  have hob : ∀ j, j ∈ obL lv' → j = gl := fun j hj => by rw [← hlv] at hj; simpa [obL, Value.ownBlock] using hj
  have F1 := Fr.set w bw 0 (.slice (some ⟨g, 0, none⟩) m cap)
  have F2 := Fr.of_grown g2
  have F3 : Fr (obL lv) w2 w3 := ((Fr.alloc w2 (.cells #[ptrV p] 25)).mono (N := obL lv) (fun j hj => by cases hj)).trans (Fr.of_grown hgrow) (fun j hj => .inl hj)
  have F4 := Fr.set w3 bl 0 lv'
  have F24 : Fr (bl :: obL lv) w2 (w3.setCell ⟨bl, 0, none⟩ lv') := (F3.mono (fun j hj => List.mem_cons_of_mem _ hj)).trans F4 (fun j hj => .inl (by simp at hj; simp [hj]))
  have F14 : Fr (bm :: bl :: obL lv) (w.setCell ⟨bw, 0, none⟩ (.slice (some ⟨g, 0, none⟩) m cap)) (w3.setCell ⟨bl, 0, none⟩ lv') := (F2.mono (fun j hj => by simp at hj; simp [hj])).trans F24 (fun j hj => .inl (List.mem_cons_of_mem _ hj))
  have F04 : Fr (bw :: bm :: bl :: obL lv) w (w3.setCell ⟨bl, 0, none⟩ lv') := (F1.mono (fun j hj => by simp at hj; simp [hj])).trans F14 (fun j hj => .inl (List.mem_cons_of_mem _ hj))
  have hs0 := F1.size
  have hs2 := F2.size
  have hs3 := F3.size
  have hgl : gl ∈ obL lv ∨ w.heap.size < gl := by
    rcases hat with h | h
    · exact .inl ((mem_ob lv gl).2 h)
    · exact .inr (by omega)
  obtain ⟨d1, d2, d3, d4, d5, d6, d7, d8, d9, d10⟩ := dd
  obtain ⟨b1, b2, b3, b4, b5⟩ := b
  have l1 := e.lt
  have l2 := st.lt
  have l3 := pm.lt
  have l4 := vw.lt
  have l5 := vl.lt
  have B04 : Below base w (w3.setCell ⟨bl, 0, none⟩ lv') := F04.below base (fun j hj => by
    simp only [List.mem_cons] at hj
    rcases hj with rfl | rfl | rfl | hj
    · exact b4
    · exact b3
    · exact b5
    · exact (rl.base j hj).1) hbs
  have B24 : Below base w2 (w3.setCell ⟨bl, 0, none⟩ lv') := F24.below base (fun j hj => by
    simp only [List.mem_cons] at hj
    rcases hj with rfl | hj
    · exact b5
    · exact (rl.base j hj).1) (by omega)
  refine ⟨_, .slice (some ⟨g, 0, none⟩) m cap, lv', _, ⟨rfl, ?_, ?_, pm2.keep (F24.block bm pm2.lt (fun h => ?_)) (fun a ha => ha.below B24), fun q hq => ?_, ?_, ⟨?_, fun j hj => ?_⟩, ?_, ⟨?_, fun j hj => ?_⟩, fun j hj => ?_, fun j hj => ?_, fun j hj => ?_, ⟨d1, d2, d3, d4, d5, d6, d7, d8, d9, d10⟩, ⟨b1, b2, b3, b4, b5⟩, ?_, fun q hq => ?_, fun q hq => ?_⟩, F04.mono fun j hj => ?_, fun j hj => ?_⟩
  · exact e.keep F04 (fun h => by
      simp only [List.mem_cons] at h
      rcases h with h | h | h | h
      · exact d3 h
      · exact d2 h
      · exact d4 h
      · exact (dl _ h).1 rfl)
  · exact st.keep F04 (fun h => by
      simp only [List.mem_cons] at h
      rcases h with h | h | h | h
      · exact d6 h
      · exact d5 h
      · exact d7 h
      · exact (dl _ h).2.1 rfl)
  · simp only [List.mem_cons] at h
    rcases h with h | h
    · exact d9 h
    · exact (dl _ h).2.2.1 rfl
  · have hne : q ≠ p := fun e => hq (e ▸ sub p (by rw [hw]; simp))
    rw [if_neg (fun e => hne (by injection e))]
    exact z q hq
  · exact (vw.set _).keep F14 (fun h => by
      simp only [List.mem_cons] at h
      rcases h with h | h | h
      · exact d8 h.symm
      · exact d10 h
      · exact (dl _ h).2.2.2.1 rfl)
  · rw [hA]
    refine own_keep hrow F04 (fun j hj h => ?_)
    have := (hdg' j).1 hj
    subst this
    simp only [List.mem_cons] at h
    rcases h with h | h | h | h
    · exact q4 h
    · exact q3 h
    · exact q5 h
    · exact q6 h
  · have := (hdg' j).1 ((mem_ob _ j).2 hj)
    subst this
    exact hg.1
  · have hv2 : Var w2 bl 42 lv := (vl.keep F1 (by simp; exact fun e => d10 e.symm)).keep F2 (by simp; exact fun e => d9 e.symm)
    exact (hv2.keep F3 (fun h => (dl _ h).2.2.2.2 rfl)).set _
  · have h2 := own_keep hown F4 (fun j hj hm => by
      obtain rfl : j = bl := by simpa using hm
      have := hob _ hj
      subst this
      rcases hgl with h | h
      · exact (dl _ h).2.2.2.2 rfl
      · omega)
    rw [List.length_append, List.map_append]
    exact h2
  · have := hob j ((mem_ob lv' j).2 hj)
    subst this
    rcases hgl with h | h
    · exact (rl.base _ h).1
    · show base ≤ j; omega
  · have := (hdg' j).1 hj
    subst this
    intro hl
    have := hob _ hl
    subst this
    rcases hgl with h | h
    · exact q6 h
    · omega
  · have := (hdg' j).1 hj
    subst this
    exact ⟨q1, q2, q3, q4, q5⟩
  · have := hob j hj
    subst this
    rcases hgl with h | h
    · exact dl _ h
    · omega
  · rw [hw] at n
    simp only [List.length_append, List.length_cons, List.length_nil] at n ⊢; omega
  · obtain ⟨h1, d', v', h2⟩ := nd q (by rw [hw]; exact List.mem_append_left _ hq)
    exact ⟨h1, d', v', (B04.block q h1).trans h2⟩
  · exact sub q (by rw [hw]; exact List.mem_append_left _ hq)
  · rw [hm]
    simp only [List.mem_cons, List.mem_append] at hj ⊢
    rcases hj with h | h | h | h
    · exact .inr (.inr (.inr (.inl h)))
    · exact .inr (.inr (.inl h))
    · exact .inr (.inr (.inr (.inr (.inl h))))
    · exact .inr (.inr (.inr (.inr (.inr (.inr h)))))
  · rw [hm]
    simp only [List.mem_cons, List.mem_append] at hj ⊢
    rcases hj with h | h | h | h | h | h | h
    · exact .inl (.inl h)
    · exact .inl (.inr (.inl h))
    · exact .inl (.inr (.inr (.inl h)))
    · exact .inl (.inr (.inr (.inr (.inl h))))
    · exact .inl (.inr (.inr (.inr (.inr (.inl h)))))
    · exact .inl (.inr (.inr (.inr (.inr (.inr (.inl ((hdg j).2 ((hdg' j).1 h))))))))
    · have := hob j h
      subst this
      rcases hgl with h | h
      · exact .inl (.inr (.inr (.inr (.inr (.inr (.inr h))))))
      · exact .inr (by omega)
/-- A node is left. -/
theorem rising2 (base be bs bm bw bl : Nat) (s : Rs) (M : List Nat) (w : World) (wv lv : Value) (f : Option Nat → Value) (h : RI base be bs bm bw bl s M w wv lv f) (A : List Nat) (p : Nat) (hw : s.way = A ++ [p]) (hc : s.vis.length ≤ 1048576) :
    Calls Tryz.prog 40 #[.pointer (some ⟨bw, 0, none⟩), .pointer (some ⟨bs, 0, none⟩), .pointer (some ⟨bl, 0, none⟩)] w fun e w' => e = .returned (.tuple #[]) ∧ ∃ M' wv' lv' f', RI base be bs bm bw bl ⟨s.vis, A, s.l ++ [p]⟩ M' w' wv' lv' f' ∧ Fr M w w' ∧ ∀ j ∈ M', j ∈ M ∨ w.heap.size ≤ j := by
  obtain ⟨i0, hi, hz0, hz1, hz2⟩ := info_parts infoP
  obtain ⟨m, hA⟩ : ∃ m, A.length = m := ⟨_, rfl⟩
  have hlen : s.way.length = m + 1 := by rw [hw, List.length_append, List.length_singleton, hA]
  obtain ⟨g, cap, hwv, cP⟩ := Row.cell h.rw m p (by rw [hw, List.getElem?_append_right (by omega), hA, Nat.sub_self]; rfl)
  rw [hlen] at hwv
  subst hwv
  have hbs : base ≤ w.heap.size := by have := h.e.lt; have := h.b; omega
  have HR := Lib.hid h
  obtain ⟨hm, e, st, pm, z, vw, rw', vl, rl, dj, dw, dl, dd, b, n, nd, sub⟩ := h
  have hcap : m + 1 ≤ cap ∧ cap ≤ 9223372036854775807 := by
    have h1 := rw'.1
    rw [hlen] at h1
    exact own_cap h1
  obtain ⟨hp, d, v, hn⟩ := nd p (by rw [hw]; simp)
  have hok : okNd base w (some p) := fun q hq => by
    obtain rfl : p = q := by simpa using hq
    exact ⟨hp, _, _, hn⟩
  have F1 := Fr.set w bw 0 (.slice (some ⟨g, 0, none⟩) m cap)
  have B1 : Below base w (w.setCell ⟨bw, 0, none⟩ (.slice (some ⟨g, 0, none⟩) m cap)) := F1.below base (fun j hj => by
    obtain rfl : j = bw := by simpa using hj
    exact b.2.2.2.1) hbs
  have pm1 : PMap (w.setCell ⟨bw, 0, none⟩ (.slice (some ⟨g, 0, none⟩) m cap)) encP (okNd base) bm (.int .i64 0) f := pm.keep (F1.block bm pm.lt (by simp; exact dd.2.2.2.2.2.2.2.1)) (fun a ha => ha.below B1)
  obtain ⟨w2, U1, pm2, g2⟩ := pm1.update (keyP base) Tryz.underlying74 (some p) (hok.below B1) (.int .i64 2)
  have s1 := st.keep F1 (by simp; exact dd.2.2.2.2.2.1)
  have l1 := vl.keep F1 (by simp; exact fun e => dd.2.2.2.2.2.2.2.2.2 e.symm)
  have F2 := Fr.of_grown g2
  have l2 := l1.keep F2 (by simp; exact fun e => dd.2.2.2.2.2.2.2.2.1 e.symm)
  have r2 := (rl.frame F1 (fun j hj => by simp; exact (dl j hj).2.2.2.1)).frame F2 (fun j hj => by simp; exact (dl j hj).2.2.1)
  have c0 := vw.c
  have f0 := vw.f
  have c1 := s1.c
  have c2 := l2.c
  have hs2 := g2.size
  have hs1 := F1.size
  simp only [encP, ptrV] at U1 cP
  have HX := Lib.hid (And.intro pm2 (And.intro g2 (And.intro l2 r2)))
  have hbln : bl ∉ obL lv := fun h => (dl bl h).2.2.2.2 rfl
  have HBL := Lib.hid hbln
  have hll : s.l.length ≤ 1048576 := by omega
  have hro := r2.1.alloc (.cells #[ptrV p] 25)
  have HN1 := Lib.hid (new1 w2 (ptrV p) 25)
  have HO1 := Lib.hid (one1 p)
  have HW := Lib.hid (And.intro hw hA)
  clear hm e st pm z vw rw' vl rl dj dw dl dd nd sub hbln F1 B1 pm1 pm2 g2 s1 l1 F2 l2 r2 hn hw hA hok
  simp only [ptrV] at hro HN1 HO1 ⊢
  go_enter Tryz.func40, Tryz.ntmps40
  go_wp2_with (at_builtin; refine wpList_append_lies _ rfl _ _ 42 rfl 0 25 i0 _ 1 8 Tryz.underlying42 hi hz0 hz1 hz2 rfl (by decide) lv s.l.length (s.l.map ptrV) rfl hro ⟨w2.heap.size, 0, none⟩ 1 1 [.pointer (some ⟨p, 0, none⟩)] rfl rfl HN1.out HO1.out (by decide) (by unfold maxLen; omega) (by omega) (by simp <;> omega) (w2.heap.size + 1) (by simp) ?_)
  intro gl capl w3 hown hgrow hat hlt3
  have hV3 : Var w3 bl 42 lv := (HX.out.2.2.1.keep (Fr.alloc _ _) (by simp)).keep (Fr.of_grown hgrow) (fun h => HBL.out h)
  have c5 := hV3.c
  have f5 := hV3.f
  have HG := Lib.hid hgrow
  have HO := Lib.hid hown
  have HA := Lib.hid hat
  have HV3 := Lib.hid hV3
  clear hgrow hown hat hV3 hro
  go_wp2_with fail
  go_end0
  exact ⟨rfl, rising2_end base be bs bm bw bl s M w g m cap lv f HR.out A p HW.out.1 HW.out.2 w2 HX.out.1 HX.out.2.1 gl capl w3 HO.out HG.out (HA.out.imp_right (fun h => Nat.le_of_eq h.symm))⟩
end Go.Proofs.YtbfclibjnanlgaaGreatDoor
/- tree.rising, walked. -/
namespace Go.Proofs.YtbfclibjnanlgaaGreatDoor
open Go.RowKit
set_option maxHeartbeats 2000000
set_option maxRecDepth 100000
set_option linter.unusedVariables false

mutual
/-- The trees within a tree, each behind those below it. -/
def postT : Tr → List Tr
  | .node p d ks => postTL ks ++ [.node p d ks]
def postTL : List Tr → List Tr
  | [] => []
  | t :: r => postT t ++ postTL r
end
mutual
theorem run_rs : ∀ (t : Tr) (s : Rs), (runTr Rs.en Rs.lv t s).way = s.way ∧ (runTr Rs.en Rs.lv t s).l = s.l ++ (postT t).map Tr.p
  | .node p d ks, s => by
    obtain ⟨h1, h2⟩ := run_rsL ks (Rs.en (.node p d ks) s)
    rw [runTr]
    constructor
    · show (runLr Rs.en Rs.lv ks (Rs.en (.node p d ks) s)).way.dropLast = s.way
      rw [h1]; simp [Rs.en]
    · show (runLr Rs.en Rs.lv ks (Rs.en (.node p d ks) s)).l ++ [(runLr Rs.en Rs.lv ks (Rs.en (.node p d ks) s)).way.getLast?.getD 0] = _
      rw [h1, h2]; simp [Rs.en, postT, Tr.p]
theorem run_rsL : ∀ (l : List Tr) (s : Rs), (runLr Rs.en Rs.lv l s).way = s.way ∧ (runLr Rs.en Rs.lv l s).l = s.l ++ (postTL l).map Tr.p
  | [], s => by simp [runLr, postTL]
  | t :: r, s => by
    obtain ⟨h1, h2⟩ := run_rs t s
    obtain ⟨h3, h4⟩ := run_rsL r (runTr Rs.en Rs.lv t s)
    rw [runLr]
    exact ⟨h3.trans h1, by rw [h4, h2]; simp [postTL]⟩
end
theorem nodesL_cons (t : Tr) (r : List Tr) : nodesL (t :: r) = t.p :: (nodesL t.ks ++ nodesL r) := by
  cases t; simp [nodesL, Tr.nodes, Tr.p, Tr.ks]
theorem q_ent (s : Rs) (n : Nat) (t : Tr) (r : List Tr) (h : Rs.Q n (t :: r) s) : Rs.Q (n + 1) (t.ks ++ r) (Rs.en t s) := by
  obtain ⟨h1, h2, h3, h4⟩ := h
  rw [nodesL_cons] at h1 h2
  rw [List.nodup_cons] at h1
  refine ⟨by rw [nodesL_app]; exact h1.2, fun p hp => ?_, by simp [Rs.en, h3], ?_⟩
  · rw [nodesL_app] at hp
    have h5 := h2 p (List.mem_cons_of_mem _ hp)
    simp only [Rs.en, List.mem_cons, not_or]
    exact ⟨fun e => h1.1 (e ▸ hp), h5⟩
  · rw [cntL_app]
    cases t
    simp only [cntL, Tr.cnt, Rs.en, Tr.ks, List.length_cons] at h4 ⊢
    omega
theorem q_lev (s : Rs) (n : Nat) (r : List Tr) (h : Rs.Q (n + 1) r s) : Rs.Q n r (Rs.lv s) := by
  obtain ⟨h1, h2, h3, h4⟩ := h
  exact ⟨h1, h2, by simp [Rs.lv, h3], h4⟩
/-- The closures of rising. -/
theorem cl_rising (base be bs bm bw bl : Nat) : Clr base (fun s M w => ∃ wv lv f, RI base be bs bm bw bl s M w wv lv f) Rs.en Rs.lv Rs.Q [.pointer (some ⟨be, 0, none⟩), .pointer (some ⟨bs, 0, none⟩), .pointer (some ⟨bw, 0, none⟩)] [.pointer (some ⟨bw, 0, none⟩), .pointer (some ⟨bs, 0, none⟩), .pointer (some ⟨bl, 0, none⟩)] where
  lt := fun s M w ⟨wv, lv, f, h⟩ j hj => (ri_lt h j hj).1
  keep := fun s M w w' N ⟨wv, lv, f, h⟩ hF hN => ⟨wv, lv, f, ri_keep h hF hN⟩
  ent := fun s M w n t r v ⟨wv, lv, f, h⟩ hq hn hp hb => by
    obtain ⟨q1, q2, q3, q4⟩ := hq
    rw [nodesL_cons] at q2
    refine (rising1 base be bs bm bw bl s M w wv lv f h t.p t.d v (q2 _ List.mem_cons_self) hn hp (by omega)).mono ?_
    rintro e w' ⟨rfl, M', wv', f', h1, h2, h3⟩
    exact ⟨rfl, M', ⟨wv', lv, f', h1⟩, h2, h3⟩
  lev := fun s M w n r ⟨wv, lv, f, h⟩ hq hb => by
    obtain ⟨q1, q2, q3, q4⟩ := hq
    have hne : s.way ≠ [] := fun e => by rw [e] at q3; simp at q3
    refine (rising2 base be bs bm bw bl s M w wv lv f h s.way.dropLast (s.way.getLast hne) (List.dropLast_concat_getLast hne).symm (by omega)).mono ?_
    rintro e w' ⟨rfl, M', wv', lv', f', h1, h2, h3⟩
    refine ⟨rfl, M', ⟨wv', lv', f', ?_⟩, h2, h3⟩
    have : Rs.lv s = ⟨s.vis, s.way.dropLast, s.l ++ [s.way.getLast hne]⟩ := by simp [Rs.lv, List.getLast?_eq_some_getLast hne]
    rw [this]; exact h1
  qent := q_ent
  qlev := q_lev
  big := fun s M w ⟨wv, lv, f, h⟩ j hj => (ri_lt h j hj).2
end Go.Proofs.YtbfclibjnanlgaaGreatDoor
/- tree.rising, walked; what stands in the list that it makes. -/
namespace Go.Proofs.YtbfclibjnanlgaaGreatDoor
open Go.RowKit
set_option maxHeartbeats 1000000
set_option linter.unusedVariables false

theorem self_post (t : Tr) : t ∈ postT t := by cases t; simp [postT]
theorem mem_postTL (l : List Tr) (t u : Tr) (ht : t ∈ l) (hu : u ∈ postT t) : u ∈ postTL l := by
  induction l with
  | nil => cases ht
  | cons a r ih =>
    simp only [postTL, List.mem_append]
    rcases List.mem_cons.1 ht with rfl | ht
    · exact .inl hu
    · exact .inr (ih ht)
/-- The kids of each stand ahead of it. -/
def Ord (l : List Tr) : Prop := ∀ (i : Nat) (u : Tr), l[i]? = some u → ∀ k ∈ u.ks, ∃ j, j < i ∧ l[j]? = some k
theorem Ord.app {a b : List Tr} (ha : Ord a) (hb : Ord b) : Ord (a ++ b) := by
  intro i u hi k hk
  by_cases h : i < a.length
  · rw [List.getElem?_append_left h] at hi
    obtain ⟨j, h1, h2⟩ := ha i u hi k hk
    exact ⟨j, h1, by rw [List.getElem?_append_left (by omega)]; exact h2⟩
  · rw [List.getElem?_append_right (by omega)] at hi
    obtain ⟨j, h1, h2⟩ := hb _ u hi k hk
    exact ⟨a.length + j, by omega, by rw [List.getElem?_append_right (by omega), Nat.add_sub_cancel_left]; exact h2⟩
mutual
theorem ord_post : ∀ t : Tr, Ord (postT t)
  | .node p d ks => by
    have h := ord_postL ks
    intro i u hi k hk
    rw [postT] at hi
    by_cases hl : i < (postTL ks).length
    · rw [List.getElem?_append_left hl] at hi
      obtain ⟨j, h1, h2⟩ := h i u hi k hk
      exact ⟨j, h1, by rw [postT, List.getElem?_append_left (by omega)]; exact h2⟩
    · rw [List.getElem?_append_right (by omega)] at hi
      have hlt := (List.getElem?_eq_some_iff.1 hi).1
      have hz : i - (postTL ks).length = 0 := by simp at hlt; omega
      rw [hz] at hi
      obtain rfl : Tr.node p d ks = u := by simpa using hi
      obtain ⟨j, hj, hj2⟩ := List.getElem_of_mem (mem_postTL ks k k hk (self_post k))
      exact ⟨j, by omega, by rw [postT, List.getElem?_append_left hj, List.getElem?_eq_getElem hj, hj2]⟩
theorem ord_postL : ∀ l : List Tr, Ord (postTL l)
  | [] => fun i u hi => by simp [postTL] at hi
  | t :: r => (ord_post t).app (ord_postL r)
end
mutual
theorem post_perm : ∀ t : Tr, ((postT t).map Tr.p).Perm t.nodes
  | .node p d ks => by
    rw [postT, List.map_append, Tr.nodes]
    exact (List.perm_append_comm.trans (.cons _ (post_permL ks)))
theorem post_permL : ∀ l : List Tr, ((postTL l).map Tr.p).Perm (nodesL l)
  | [] => .refl _
  | t :: r => by rw [postTL, List.map_append, nodesL]; exact (post_perm t).append (post_permL r)
end
theorem post_nodup (t : Tr) (h : t.nodes.Nodup) : ((postT t).map Tr.p).Nodup := (post_perm t).nodup_iff.2 h
theorem post_len (t : Tr) : (postT t).length = t.cnt := by
  rw [← List.length_map (f := Tr.p), (post_perm t).length_eq, nodes_len]
mutual
theorem IsT.post {w : World} {P : Nat → Prop} : ∀ {t : Tr}, IsT w P t → ∀ u ∈ postT t, IsT w P u
  | .node p d ks, h, u, hu => by
    rw [postT] at hu
    rcases List.mem_append.1 hu with hu | hu
    · exact IsTL.post h.2.2 u hu
    · obtain rfl : u = .node p d ks := by simpa using hu
      exact h
theorem IsTL.post {w : World} {P : Nat → Prop} : ∀ {l : List Tr}, IsTL w P l → ∀ u ∈ postTL l, IsT w P u
  | [], _, u, hu => by simp [postTL] at hu
  | t :: r, h, u, hu => by
    rw [postTL] at hu
    rcases List.mem_append.1 hu with hu | hu
    · exact IsT.post h.1 u hu
    · exact IsTL.post h.2 u hu
end
mutual
theorem post_cnt : ∀ (t : Tr), ∀ u ∈ postT t, u.cnt ≤ t.cnt
  | .node p d ks, u, hu => by
    rw [postT] at hu
    rcases List.mem_append.1 hu with hu | hu
    · have := post_cntL ks u hu; simp only [Tr.cnt]; omega
    · obtain rfl : u = .node p d ks := by simpa using hu
      exact Nat.le_refl _
theorem post_cntL : ∀ (l : List Tr), ∀ u ∈ postTL l, u.cnt ≤ cntL l
  | [], u, hu => by simp [postTL] at hu
  | t :: r, u, hu => by
    rw [postTL] at hu
    simp only [cntL]
    rcases List.mem_append.1 hu with hu | hu
    · have := post_cnt t u hu; omega
    · have := post_cntL r u hu; omega
end
theorem cnt_ks (t : Tr) : t.cnt = cntL t.ks + 1 := by cases t; simp only [Tr.cnt, Tr.ks]; omega
theorem deep_ks (t : Tr) : t.deep = deepL t.ks + 1 := by cases t; simp [Tr.deep, Tr.ks]
theorem deepL_app (a b : List Tr) : deepL (a ++ b) = max (deepL a) (deepL b) := by
  induction a with
  | nil => simp [deepL]
  | cons t r ih => simp [deepL, ih] <;> omega
mutual
theorem deep_le : ∀ t : Tr, t.deep ≤ t.cnt
  | .node p d ks => by have := deepL_le ks; simp only [Tr.deep, Tr.cnt]; omega
theorem deepL_le : ∀ l : List Tr, deepL l ≤ cntL l
  | [] => Nat.le_refl _
  | t :: r => by have := deep_le t; have := deepL_le r; simp only [deepL, cntL]; omega
end
theorem cntL_snoc (l : List Tr) (k : Tr) : cntL (l ++ [k]) = cntL l + k.cnt := by rw [cntL_app]; simp [cntL]
theorem deepL_snoc (l : List Tr) (k : Tr) : deepL (l ++ [k]) = max (deepL l) k.deep := by rw [deepL_app]; simp [deepL]
theorem cntL_take (l : List Tr) (i : Nat) : cntL (l.take i) ≤ cntL l := by
  have := cntL_app (l.take i) (l.drop i)
  rw [List.take_append_drop] at this; omega
theorem kslen_le (l : List Tr) : l.length ≤ cntL l := by
  induction l with
  | nil => exact Nat.le_refl _
  | cons t r ih => have := cnt_pos t; simp only [cntL, List.length_cons]; omega
/-- Nodes of unlike numbers are unlike. -/
theorem p_inj (l : List Tr) (h : (l.map Tr.p).Nodup) (u v : Tr) (hu : u ∈ l) (hv : v ∈ l) (e : u.p = v.p) : u = v := by
  induction l with
  | nil => cases hu
  | cons a r ih =>
    rw [List.map_cons, List.nodup_cons] at h
    rcases List.mem_cons.1 hu with h1 | h1 <;> rcases List.mem_cons.1 hv with h2 | h2
    · rw [h1, h2]
    · exact absurd (List.mem_map.2 ⟨v, h2, by rw [← e, h1]⟩) h.1
    · exact absurd (List.mem_map.2 ⟨u, h1, by rw [e, h2]⟩) h.1
    · exact ih h.2 h1 h2
end Go.Proofs.YtbfclibjnanlgaaGreatDoor
/- tree.rising, walked. -/
namespace Go.Proofs.YtbfclibjnanlgaaGreatDoor
open Go.RowKit
set_option maxHeartbeats 2000000
set_option maxRecDepth 100000
set_option linter.unusedVariables false

def R1 (w : World) : World := w.alloc (.cells #[.slice none 0 0] 42)
def R2 (w : World) : World := (R1 w).alloc (.cells #[.slice none 0 0] 42)
def R3 (w : World) : World := (R2 w).alloc (.map #[] 0)
def R4 (w : World) : World := (R3 w).alloc (.cells #[.map (some (w.heap.size + 2))] 74)
def R5 (w : World) : World := (R4 w).alloc (.cells #[.bool false] 4)
theorem r5_fr (w : World) : Fr [] w (R5 w) ∧ (R5 w).heap.size = w.heap.size + 5 := by
  refine ⟨?_, by simp [R5, R4, R3, R2, R1]⟩
  exact ((((Fr.alloc _ _).trans (Fr.alloc _ _) (by simp)).trans (Fr.alloc _ _) (by simp)).trans (Fr.alloc _ _) (by simp)).trans (Fr.alloc _ _) (by simp)
theorem r5_ri (w : World) : RI w.heap.size (w.heap.size + 4) (w.heap.size + 3) (w.heap.size + 2) (w.heap.size + 1) w.heap.size ⟨[], [], []⟩ [w.heap.size + 4, w.heap.size + 3, w.heap.size + 2, w.heap.size + 1, w.heap.size] (R5 w) (.slice none 0 0) (.slice none 0 0) (fun _ => .int .i64 0) := by
  have s1 : (R1 w).heap.size = w.heap.size + 1 := by simp [R1]
  have s2 : (R2 w).heap.size = w.heap.size + 2 := by simp [R2, R1]
  have s3 : (R3 w).heap.size = w.heap.size + 3 := by simp [R3, R2, R1]
  have s4 : (R4 w).heap.size = w.heap.size + 4 := by simp [R4, R3, R2, R1]
  have v1 : Var (R1 w) w.heap.size 42 (.slice none 0 0) := heap_alloc_new _ _
  have v2 : Var (R2 w) (w.heap.size + 1) 42 (.slice none 0 0) := by rw [← s1]; exact heap_alloc_new _ _
  have v3 : PMap (R3 w) encP (okNd w.heap.size) (w.heap.size + 2) (.int .i64 0) (fun _ => .int .i64 0) := by rw [← s2]; exact PMap.made _ _ _ _
  have v4 : Var (R4 w) (w.heap.size + 3) 74 (.map (some (w.heap.size + 2))) := by rw [← s3]; exact heap_alloc_new _ _
  have v5 : Var (R5 w) (w.heap.size + 4) 4 (.bool false) := by rw [← s4]; exact heap_alloc_new _ _
  have f2 : Fr [] (R1 w) (R2 w) := Fr.alloc _ _
  have f3 : Fr [] (R2 w) (R3 w) := Fr.alloc _ _
  have f4 : Fr [] (R3 w) (R4 w) := Fr.alloc _ _
  have f5 : Fr [] (R4 w) (R5 w) := Fr.alloc _ _
  have f35 := f4.trans f5 (by simp)
  have f25 := f3.trans f35 (by simp)
  have f15 := f2.trans f25 (by simp)
  refine ⟨rfl, v5, v4.keep f5 (by simp), ?_, fun _ _ => rfl, v2.keep f25 (by simp), ⟨World.ownsRow_nil _ _ _ _, fun g hg => (by cases hg)⟩, v1.keep f15 (by simp), ⟨World.ownsRow_nil _ _ _ _, fun g hg => (by cases hg)⟩, fun j hj => (by simp [obL, Value.ownBlock] at hj), fun j hj => (by simp [obL, Value.ownBlock] at hj), fun j hj => (by simp [obL, Value.ownBlock] at hj), (by omega), (by omega), Nat.le_refl _, fun p hp => (by cases hp), fun p hp => (by cases hp)⟩
  exact v3.keep (f35.block _ v3.lt (by simp)) (fun a ha => ha.below (f35.below _ (by simp) (by omega)))
/-- tree.rising of a tree: its nodes, each behind those below it. -/
theorem rising_any (w : World) (t : Tr) {P : Nat → Prop} (hT : IsT w P t) (hnd : t.nodes.Nodup) (hc : t.cnt ≤ 1048576) :
    Calls Tryz.prog 18 #[ptrV t.p] w fun e w' => ∃ rv, e = .returned rv ∧ Below w.heap.size w w' ∧ Row w' (w.heap.size ≤ ·) rv ((postT t).map Tr.p) := by
  obtain ⟨F5, hs5⟩ := r5_fr w
  have hT5 : IsT (R5 w) (· < w.heap.size) t := hT.keep (fun j _ h => h) (fun j _ h => F5.block j h (by simp))
  have HW := walk_r (cl_rising w.heap.size (w.heap.size + 4) (w.heap.size + 3) (w.heap.size + 2) (w.heap.size + 1) w.heap.size) ⟨[], [], []⟩ _ (R5 w) t ⟨_, _, _, r5_ri w⟩ ⟨by simpa [nodesL] using hnd, by simp, rfl, by simp [cntL]; omega⟩ hT5 hc (by omega)
  have HF := Lib.hid F5
  have hrs := run_rs t ⟨[], [], []⟩
  have HRS := Lib.hid hrs
  clear F5 hT5 hT hnd hrs
  simp only [R5, R4, R3, R2, R1, ptrV] at HW HF hs5 ⊢
  have hmm := @run_makeMap Tryz.prog
  go_enter Tryz.func18, Tryz.ntmps18
  go_wp2_with fail
  refine HW.mono ?_
  rintro e w1 ⟨rfl, M', ⟨wv, lv, f, hI⟩, F1, hM'⟩
  have c1 := hI.e.c
  have c2 := hI.vl.c
  have HI := Lib.hid hI
  have HF1 := Lib.hid F1
  clear hI F1 hM'
  go_wp2_with fail
  go_ret
  refine ⟨lv, rfl, ((HF.out.below w.heap.size (by simp) (Nat.le_refl _))).trans (HF1.out.below w.heap.size (fun j hj => by simp at hj; omega) (by omega)), ?_⟩
  have := HI.out.rl
  rw [HRS.out.2] at this
  exact this
end Go.Proofs.YtbfclibjnanlgaaGreatDoor
