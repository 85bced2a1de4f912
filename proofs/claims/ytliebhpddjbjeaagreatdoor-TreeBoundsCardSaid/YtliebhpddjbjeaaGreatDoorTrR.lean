/- tree.rising, walked. -/
import Derived.Test.YtliebhpddjbjeaaGreatDoorTwBr
namespace Go.Proofs.YtliebhpddjbjeaaGreatDoor
open Go.RowKit
set_option maxHeartbeats 2000000
set_option maxRecDepth 100000
set_option linter.unusedVariables false

theorem infoP : (Tryz.prog.info? 33).map (fun i => (i.zero, i.size, i.bytes)) = some (some (.pointer none), 1, 8) := by kernel_rfl
theorem zeroI (w : World) : (zeroValue 3).run Tryz.prog w = .ok (.int .i64 0) w := by kernel_rfl
/-- What is visited, the way from above, the nodes that are done. -/
structure Rs where
  vis : List Nat
  way : List Nat
  l : List Nat
def Rs.en (t : Tr) (s : Rs) : Rs := ⟨t.p :: s.vis, s.way ++ [t.p], s.l⟩
def Rs.lv (s : Rs) : Rs := ⟨s.vis, s.way.dropLast, s.l ++ [s.way.getLast?.getD 0]⟩
def Rs.Q (n : Nat) (l : List Tr) (s : Rs) : Prop := (nodesL l).Nodup ∧ (∀ p ∈ nodesL l, p ∉ s.vis) ∧ s.way.length = n ∧ s.vis.length + cntL l ≤ 1048576
/-- Where rising keeps its state. -/
structure RI (base be bs bm bw bl : Nat) (s : Rs) (M : List Nat) (w : World) (wv lv : Value) (f : Option Nat → Value) : Prop where
  m : M = be :: bs :: bm :: bw :: bl :: (obL wv ++ obL lv)
  e : Var w be 4 (.bool false)
  st : Var w bs 108 (.map (some bm))
  p : PMap w encP (okNd base) bm (.int .i64 0) f
  z : ∀ p, p ∉ s.vis → f (some p) = .int .i64 0
  vw : Var w bw 76 wv
  rw : Row w (base ≤ ·) wv s.way
  vl : Var w bl 76 lv
  rl : Row w (base ≤ ·) lv s.l
  d : ∀ j ∈ obL wv, j ∉ obL lv
  dw : ∀ j ∈ obL wv, j ≠ be ∧ j ≠ bs ∧ j ≠ bm ∧ j ≠ bw ∧ j ≠ bl
  dl : ∀ j ∈ obL lv, j ≠ be ∧ j ≠ bs ∧ j ≠ bm ∧ j ≠ bw ∧ j ≠ bl
  dd : be ≠ bs ∧ be ≠ bm ∧ be ≠ bw ∧ be ≠ bl ∧ bs ≠ bm ∧ bs ≠ bw ∧ bs ≠ bl ∧ bm ≠ bw ∧ bm ≠ bl ∧ bw ≠ bl
  b : base ≤ be ∧ base ≤ bs ∧ base ≤ bm ∧ base ≤ bw ∧ base ≤ bl
  n : s.way.length + s.l.length ≤ s.vis.length
  nd : ∀ p ∈ s.way, p < base ∧ ∃ d v, w.heap[p]? = some (nodeO d v)
  sub : ∀ p ∈ s.way, p ∈ s.vis
theorem ri_keep {base be bs bm bw bl : Nat} {s : Rs} {M : List Nat} {w w' : World} {wv lv : Value} {f : Option Nat → Value} {N : List Nat} (h : RI base be bs bm bw bl s M w wv lv f) (hf : Fr N w w') (hN : ∀ j ∈ N, j ∉ M ∧ base ≤ j) : RI base be bs bm bw bl s M w' wv lv f := by
  have hb : base ≤ w.heap.size := by have := h.e.lt; have := h.b; omega
  have B : Below base w w' := hf.below base (fun j hj => (hN j hj).2) hb
  obtain ⟨m, e, st, p, z, vw, rw, vl, rl, d, dw, dl, dd, b, n, nd, sub⟩ := h
  have nm : ∀ j ∈ M, j ∉ N := fun j hj hn => (hN j hn).1 hj
  subst m
  exact ⟨rfl, e.keep hf (nm _ (by simp)), st.keep hf (nm _ (by simp)), p.keep (hf.block bm p.lt (nm _ (by simp))) (fun a ha => ha.below B), z, vw.keep hf (nm _ (by simp)), rw.frame hf (fun j hj => nm j (by simp [hj])), vl.keep hf (nm _ (by simp)), rl.frame hf (fun j hj => nm j (by simp [hj])), d, dw, dl, dd, b, n, fun p hp => by
    obtain ⟨h1, d, v, h2⟩ := nd p hp
    exact ⟨h1, d, v, (B.block p h1).trans h2⟩, sub⟩
theorem ri_lt {base be bs bm bw bl : Nat} {s : Rs} {M : List Nat} {w : World} {wv lv : Value} {f : Option Nat → Value} (h : RI base be bs bm bw bl s M w wv lv f) : ∀ j ∈ M, j < w.heap.size ∧ base ≤ j := by
  obtain ⟨m, e, st, p, z, vw, rw, vl, rl, d, dw, dl, dd, b, n, nd, sub⟩ := h
  subst m
  intro j hj
  simp only [List.mem_cons, List.mem_append] at hj
  rcases hj with rfl | rfl | rfl | rfl | rfl | hj | hj
  · exact ⟨e.lt, b.1⟩
  · exact ⟨st.lt, b.2.1⟩
  · exact ⟨p.lt, b.2.2.1⟩
  · exact ⟨vw.lt, b.2.2.2.1⟩
  · exact ⟨vl.lt, b.2.2.2.2⟩
  · exact ⟨(rw.base j hj).2, (rw.base j hj).1⟩
  · exact ⟨(rl.base j hj).2, (rl.base j hj).1⟩
theorem new1 (w : World) (u : Value) (T : TypeId) : ∀ j v, [u][j]? = some v → (w.alloc (.cells #[u] T)).cell? ((⟨w.heap.size, 0, none⟩ : Addr).add j) = some v := by
  intro j v hj
  match j, hj with
  | 0, hj => simp at hj; subst hj; simp [Addr.add]
theorem one1 (p : Nat) : ∀ u ∈ [ptrV p], u.oneCell' = true := fun u hu => by
  simp at hu; subst hu; rfl
/-- What holds behind rising$1. -/
theorem rising1_end (base be bs bm bw bl : Nat) (s : Rs) (M : List Nat) (w : World) (wv lv : Value) (f : Option Nat → Value) (h : RI base be bs bm bw bl s M w wv lv f) (p : Nat) (d : ND) (v : Value) (hv : p ∉ s.vis) (hn : w.heap[p]? = some (nodeO d v)) (hp : p < base)
    (w2 : World) (pm2 : PMap w2 encP (okNd base) bm (.int .i64 0) (fun a => if a = some p then .int .i64 1 else f a)) (g2 : (w.setCell ⟨be, 0, none⟩ (.bool false)).grownBy w2 (some bm))
    (g cap : Nat) (w3 : World) (hown : w3.ownsRow 0 33 1 (.slice (some ⟨g, 0, none⟩) (s.way.length + 1) cap) (s.way.length + 1) (s.way.map ptrV ++ [ptrV p]))
    (hgrow : (w2.alloc (.cells #[ptrV p] 33)).grownBy w3 wv.ownBlock) (hat : wv.ownBlock = some g ∨ w2.heap.size + 1 ≤ g) :
    ∃ M' wv' f', RI base be bs bm bw bl ⟨p :: s.vis, s.way ++ [p], s.l⟩ M' (w3.setCell ⟨bw, 0, none⟩ (.slice (some ⟨g, 0, none⟩) (s.way.length + 1) cap)) wv' lv f' ∧ Fr M w (w3.setCell ⟨bw, 0, none⟩ (.slice (some ⟨g, 0, none⟩) (s.way.length + 1) cap)) ∧ ∀ j ∈ M', j ∈ M ∨ w.heap.size ≤ j := by
  have hlt := ri_lt h
  have hbs : base ≤ w.heap.size := by have := h.e.lt; have := h.b; omega
  obtain ⟨m, e, st, pm, z, vw, rw, vl, rl, dj, dw, dl, dd, b, n, nd, sub⟩ := h
  generalize hwv : Value.slice (some ⟨g, 0, none⟩) (s.way.length + 1) cap = wv' at *
  have hob : ∀ j, j ∈ obL wv' → j = g := fun j hj => by rw [← hwv] at hj; simpa [obL, Value.ownBlock] using hj
  have F1 := Fr.set w be 0 (.bool false)
  have F2 := Fr.of_grown g2
  have F3 : Fr (obL wv) w2 w3 := ((Fr.alloc w2 (.cells #[ptrV p] 33)).mono (N := obL wv) (fun j hj => by cases hj)).trans (Fr.of_grown hgrow) (fun j hj => .inl hj)
  have F4 := Fr.set w3 bw 0 wv'
  have F24 : Fr (bw :: obL wv) w2 (w3.setCell ⟨bw, 0, none⟩ wv') := (F3.mono (fun j hj => List.mem_cons_of_mem _ hj)).trans F4 (fun j hj => .inl (by simp at hj; simp [hj]))
  have F14 : Fr (bm :: bw :: obL wv) (w.setCell ⟨be, 0, none⟩ (.bool false)) (w3.setCell ⟨bw, 0, none⟩ wv') := (F2.mono (fun j hj => by simp at hj; simp [hj])).trans F24 (fun j hj => .inl (List.mem_cons_of_mem _ hj))
  have F04 : Fr (be :: bm :: bw :: obL wv) w (w3.setCell ⟨bw, 0, none⟩ wv') := (F1.mono (fun j hj => by simp at hj; simp [hj])).trans F14 (fun j hj => .inl (List.mem_cons_of_mem _ hj))
  have hs0 := F1.size
  have hs2 := F2.size
  have hs3 := F3.size
  have hgl : g ∈ obL wv ∨ w.heap.size < g := by
    rcases hat with h | h
    · exact .inl ((mem_ob wv g).2 h)
    · exact .inr (by omega)
  obtain ⟨d1, d2, d3, d4, d5, d6, d7, d8, d9, d10⟩ := dd
  obtain ⟨b1, b2, b3, b4, b5⟩ := b
  have l1 := e.lt
  have l2 := st.lt
  have l3 := pm.lt
  have l4 := vw.lt
  have l5 := vl.lt
  have B04 : Below base w (w3.setCell ⟨bw, 0, none⟩ wv') := F04.below base (fun j hj => by
    simp only [List.mem_cons] at hj
    rcases hj with rfl | rfl | rfl | hj
    · exact b1
    · exact b3
    · exact b4
    · exact (rw.base j hj).1) hbs
  have B24 : Below base w2 (w3.setCell ⟨bw, 0, none⟩ wv') := F24.below base (fun j hj => by
    simp only [List.mem_cons] at hj
    rcases hj with rfl | hj
    · exact b4
    · exact (rw.base j hj).1) (by omega)
  refine ⟨_, wv', _, ⟨rfl, ?_, ?_, pm2.keep (F24.block bm pm2.lt (fun h => ?_)) (fun a ha => ha.below B24), fun q hq => ?_, ?_, ⟨?_, fun j hj => ?_⟩, ?_, ?_, fun j hj => ?_, fun j hj => ?_, dl, ⟨d1, d2, d3, d4, d5, d6, d7, d8, d9, d10⟩, ⟨b1, b2, b3, b4, b5⟩, ?_, fun q hq => ?_, fun q hq => ?_⟩, F04.mono fun j hj => ?_, fun j hj => ?_⟩
  · exact (e.set _).keep F14 (fun h => by
      simp only [List.mem_cons] at h
      rcases h with h | h | h
      · exact d2 h
      · exact d3 h
      · exact (dw _ h).1 rfl)
  · exact st.keep F04 (fun h => by
      simp only [List.mem_cons] at h
      rcases h with h | h | h | h
      · exact d1 h.symm
      · exact d5 h
      · exact d6 h
      · exact (dw _ h).2.1 rfl)
  · simp only [List.mem_cons] at h
    rcases h with h | h
    · exact d8 h
    · exact (dw _ h).2.2.1 rfl
  · simp only [List.mem_cons, not_or] at hq
    rw [if_neg (fun e => hq.1 (by injection e))]
    exact z q hq.2
  · have hv2 : Var w2 bw 76 wv := (vw.keep F1 (by simp; exact fun e => d3 e.symm)).keep F2 (by simp; exact fun e => d8 e.symm)
    exact (hv2.keep F3 (fun h => (dw _ h).2.2.2.1 rfl)).set _
  · have h2 := own_keep hown F4 (fun j hj hm => by
      obtain rfl : j = bw := by simpa using hm
      have := hob _ hj
      subst this
      rcases hgl with h | h
      · exact (dw _ h).2.2.2.1 rfl
      · omega)
    rw [List.length_append, List.map_append]
    exact h2
  · have := hob j ((mem_ob wv' j).2 hj)
    subst this
    rcases hgl with h | h
    · exact (rw.base _ h).1
    · show base ≤ j; omega
  · exact vl.keep F04 (fun h => by
      simp only [List.mem_cons] at h
      rcases h with h | h | h | h
      · exact d4 h.symm
      · exact d9 h.symm
      · exact d10 h.symm
      · exact (dw _ h).2.2.2.2 rfl)
  · exact rl.frame F04 (fun j hj h => by
      simp only [List.mem_cons] at h
      obtain ⟨q1, q2, q3, q4, q5⟩ := dl j hj
      rcases h with h | h | h | h
      · exact q1 h
      · exact q3 h
      · exact q4 h
      · exact dj j h hj)
  · have := hob j hj
    subst this
    intro hl
    rcases hgl with h | h
    · exact dj _ h hl
    · have := (rl.base _ hl).2; omega
  · have := hob j hj
    subst this
    rcases hgl with h | h
    · exact dw _ h
    · omega
  · simp only [List.length_append, List.length_cons, List.length_nil]; omega
  · rcases List.mem_append.1 hq with hq | hq
    · obtain ⟨h1, d', v', h2⟩ := nd q hq
      exact ⟨h1, d', v', (B04.block q h1).trans h2⟩
    · obtain rfl : q = p := by simpa using hq
      exact ⟨hp, d, v, (B04.block q hp).trans hn⟩
  · rcases List.mem_append.1 hq with hq | hq
    · exact List.mem_cons_of_mem _ (sub q hq)
    · obtain rfl : q = p := by simpa using hq
      exact List.mem_cons_self
  · rw [m]
    simp only [List.mem_cons, List.mem_append] at hj ⊢
    rcases hj with h | h | h | h
    · exact .inl h
    · exact .inr (.inr (.inl h))
    · exact .inr (.inr (.inr (.inl h)))
    · exact .inr (.inr (.inr (.inr (.inr (.inl h)))))
  · rw [m]
    simp only [List.mem_cons, List.mem_append] at hj ⊢
    rcases hj with h | h | h | h | h | h | h
    · exact .inl (.inl h)
    · exact .inl (.inr (.inl h))
    · exact .inl (.inr (.inr (.inl h)))
    · exact .inl (.inr (.inr (.inr (.inl h))))
    · exact .inl (.inr (.inr (.inr (.inr (.inl h)))))
    · have := hob j h
      subst this
      rcases hgl with h | h
      · exact .inl (.inr (.inr (.inr (.inr (.inr (.inl h))))))
      · exact .inr (by omega)
    · exact .inl (.inr (.inr (.inr (.inr (.inr (.inr h))))))
/-- A node is entered. -/
theorem rising1 (base be bs bm bw bl : Nat) (s : Rs) (M : List Nat) (w : World) (wv lv : Value) (f : Option Nat → Value) (h : RI base be bs bm bw bl s M w wv lv f) (p : Nat) (d : ND) (v : Value) (hv : p ∉ s.vis) (hn : w.heap[p]? = some (nodeO d v)) (hp : p < base) (hc : s.vis.length ≤ 1048576) :
    Calls Tryz.prog 81 #[ptrV p, .pointer (some ⟨be, 0, none⟩), .pointer (some ⟨bs, 0, none⟩), .pointer (some ⟨bw, 0, none⟩)] w fun e w' => e = .returned (.bool true) ∧ ∃ M' wv' f', RI base be bs bm bw bl ⟨p :: s.vis, s.way ++ [p], s.l⟩ M' w' wv' lv f' ∧ Fr M w w' ∧ ∀ j ∈ M', j ∈ M ∨ w.heap.size ≤ j := by
  obtain ⟨i0, hi, hz0, hz1, hz2⟩ := info_parts infoP
  have hlt := ri_lt h
  have hbs : base ≤ w.heap.size := by have := h.e.lt; have := h.b; omega
  have HR := Lib.hid h
  have HNP := Lib.hid hn
  obtain ⟨m, e, st, pm, z, vw, rw, vl, rl, dj, dw, dl, dd, b, n, nd, sub⟩ := h
  have hok : okNd base w (some p) := fun q hq => by
    obtain rfl : p = q := by simpa using hq
    exact ⟨hp, _, _, hn⟩
  have hz := z p hv
  have L0 := pm.lookup (keyP base) Tryz.underlying108 (zeroI w) (some p) hok
  rw [hz] at L0
  have F1 := Fr.set w be 0 (.bool false)
  have B1 : Below base w (w.setCell ⟨be, 0, none⟩ (.bool false)) := F1.below base (fun j hj => by
    obtain rfl : j = be := by simpa using hj
    exact b.1) hbs
  have pm1 : PMap (w.setCell ⟨be, 0, none⟩ (.bool false)) encP (okNd base) bm (.int .i64 0) f := pm.keep (F1.block bm pm.lt (by simp; exact fun e => dd.2.1 e.symm)) (fun a ha => ha.below B1)
  have L1 := pm1.lookup (keyP base) Tryz.underlying108 (zeroI _) (some p) (hok.below B1)
  rw [hz] at L1
  obtain ⟨w2, U1, pm2, g2⟩ := pm1.update (keyP base) Tryz.underlying108 (some p) (hok.below B1) (.int .i64 1)
  have e1 : Var (w.setCell ⟨be, 0, none⟩ (.bool false)) be 4 (.bool false) := e.set _
  have s1 := st.keep F1 (by simp; exact fun e => dd.1 e.symm)
  have w1 := vw.keep F1 (by simp; exact fun e => dd.2.2.1 e.symm)
  have F2 := Fr.of_grown g2
  have w2v := w1.keep F2 (by simp; exact fun e => dd.2.2.2.2.2.2.2.1 e.symm)
  have r2 := (rw.frame F1 (fun j hj => by simp; exact (dw j hj).1)).frame F2 (fun j hj => by simp; exact (dw j hj).2.2.1)
  have c0 := e.c
  have f0 := e.f
  have c1 := st.c
  have c2 := e1.c
  have c3 := s1.c
  have c4 := w2v.c
  have hs2 := g2.size
  have hs1 := F1.size
  simp only [encP, ptrV] at L0 L1 U1
  have HX := Lib.hid (And.intro pm2 (And.intro g2 (And.intro w2v r2)))
  have HZ := Lib.hid (And.intro hz hok)
  have HRW := Lib.hid rw
  have hbwn : bw ∉ obL wv := fun h => (dw bw h).2.2.2.1 rfl
  have HBW := Lib.hid hbwn
  have HWL := Lib.hid (And.intro w1 (And.intro s1 e1))
  have hwl : s.way.length ≤ 1048576 := by omega
  have hro := r2.1.alloc (.cells #[ptrV p] 33)
  have HN1 := Lib.hid (new1 w2 (ptrV p) 33)
  have HO1 := Lib.hid (one1 p)
  clear m e st pm z vw rw vl rl dj dw dl dd nd sub hz hbwn F1 B1 pm1 pm2 g2 e1 s1 w1 F2 w2v r2 hn
  simp only [ptrV] at hro HN1 HO1 ⊢
  go_enter Tryz.func81, Tryz.ntmps81
  go_wp2_with ((at_builtin; refine wpList_append_lies _ rfl _ _ 76 rfl 0 33 i0 _ 1 8 Tryz.underlying76 hi hz0 hz1 hz2 rfl (by decide) wv s.way.length (s.way.map ptrV) rfl hro ⟨w2.heap.size, 0, none⟩ 1 1 [.pointer (some ⟨p, 0, none⟩)] rfl rfl HN1.out HO1.out (by decide) (by unfold maxLen; omega) (by omega) (by simp <;> omega) (w2.heap.size + 1) (by simp) ?_))
  intro g cap w3 hown hgrow hat hlt3
  have hV3 : Var w3 bw 76 wv := (HX.out.2.2.1.keep (Fr.alloc _ _) (by simp)).keep (Fr.of_grown hgrow) (fun h => HBW.out h)
  have c5 := hV3.c
  have f5 := hV3.f
  have HG := Lib.hid hgrow
  have HO := Lib.hid hown
  have HA := Lib.hid hat
  have HV3 := Lib.hid hV3
  clear hgrow hown hat hV3 hro
  go_wp2_with fail
  go_ret
  exact ⟨rfl, rising1_end base be bs bm bw bl s M w wv lv f HR.out p d v hv HNP.out hp w2 HX.out.1 HX.out.2.1 g cap w3 HO.out HG.out (HA.out.imp_right (fun h => Nat.le_of_eq h.symm))⟩
end Go.Proofs.YtliebhpddjbjeaaGreatDoor
