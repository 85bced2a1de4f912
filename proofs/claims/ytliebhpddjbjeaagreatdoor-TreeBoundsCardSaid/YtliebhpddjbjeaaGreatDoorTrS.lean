/- tree.rising, walked: a node is left. -/
import Derived.Test.YtliebhpddjbjeaaGreatDoorTrR
namespace Go.Proofs.YtliebhpddjbjeaaGreatDoor
open Go.RowKit
set_option maxHeartbeats 2000000
set_option maxRecDepth 100000
set_option linter.unusedVariables false

/-- What holds behind rising$2. -/
theorem rising2_end (base be bs bm bw bl : Nat) (s : Rs) (M : List Nat) (w : World) (g m cap : Nat) (lv : Value) (f : Option Nat → Value) (h : RI base be bs bm bw bl s M w (.slice (some ⟨g, 0, none⟩) (m + 1) cap) lv f) (A : List Nat) (p : Nat) (hw : s.way = A ++ [p]) (hA : A.length = m)
    (w2 : World) (pm2 : PMap w2 encP (okNd base) bm (.int .i64 0) (fun a => if a = some p then .int .i64 2 else f a)) (g2 : (w.setCell ⟨bw, 0, none⟩ (.slice (some ⟨g, 0, none⟩) m cap)).grownBy w2 (some bm))
    (gl capl : Nat) (w3 : World) (hown : w3.ownsRow 0 33 1 (.slice (some ⟨gl, 0, none⟩) (s.l.length + 1) capl) (s.l.length + 1) (s.l.map ptrV ++ [ptrV p]))
    (hgrow : (w2.alloc (.cells #[ptrV p] 33)).grownBy w3 lv.ownBlock) (hat : lv.ownBlock = some gl ∨ w2.heap.size + 1 ≤ gl) :
    ∃ M' wv' lv' f', RI base be bs bm bw bl ⟨s.vis, A, s.l ++ [p]⟩ M' (w3.setCell ⟨bl, 0, none⟩ (.slice (some ⟨gl, 0, none⟩) (s.l.length + 1) capl)) wv' lv' f' ∧ Fr M w (w3.setCell ⟨bl, 0, none⟩ (.slice (some ⟨gl, 0, none⟩) (s.l.length + 1) capl)) ∧ ∀ j ∈ M', j ∈ M ∨ w.heap.size ≤ j := by
  have hlt := ri_lt h
  have hbs : base ≤ w.heap.size := by have := h.e.lt; have := h.b; omega
  obtain ⟨hm, e, st, pm, z, vw, rw, vl, rl, dj, dw, dl, dd, b, n, nd, sub⟩ := h
  have hrow : w.ownsRow 0 33 1 (.slice (some ⟨g, 0, none⟩) m cap) m (A.map ptrV) := by
    have h1 := rw.1
    rw [hw, List.length_append, List.length_singleton, hA, List.map_append] at h1
    have h2 := own_cut h1 (.inl (by simp)) (Nat.le_succ m)
    rw [List.take_left' (by rw [List.length_map, hA]; omega)] at h2
    exact h2
  have hg : base ≤ g ∧ g < w.heap.size := rw.base g (by simp [obL, Value.ownBlock])
  have hdg : ∀ j, j ∈ obL (.slice (some ⟨g, 0, none⟩) (m + 1) cap) ↔ j = g := fun j => by simp [obL, Value.ownBlock]
  have hdg' : ∀ j, j ∈ obL (.slice (some ⟨g, 0, none⟩) m cap) ↔ j = g := fun j => by simp [obL, Value.ownBlock]
  obtain ⟨q1, q2, q3, q4, q5⟩ := dw g ((hdg g).2 rfl)
  have q6 := dj g ((hdg g).2 rfl)
  generalize hlv : Value.slice (some ⟨gl, 0, none⟩) (s.l.length + 1) capl = lv' at *
  have hob : ∀ j, j ∈ obL lv' → j = gl := fun j hj => by rw [← hlv] at hj; simpa [obL, Value.ownBlock] using hj
  have F1 := Fr.set w bw 0 (.slice (some ⟨g, 0, none⟩) m cap)
  have F2 := Fr.of_grown g2
  have F3 : Fr (obL lv) w2 w3 := ((Fr.alloc w2 (.cells #[ptrV p] 33)).mono (N := obL lv) (fun j hj => by cases hj)).trans (Fr.of_grown hgrow) (fun j hj => .inl hj)
  have F4 := Fr.set w3 bl 0 lv'
  have F24 : Fr (bl :: obL lv) w2 (w3.setCell ⟨bl, 0, none⟩ lv') := (F3.mono (fun j hj => List.mem_cons_of_mem _ hj)).trans F4 (fun j hj => .inl (by simp at hj; simp [hj]))
  have F14 : Fr (bm :: bl :: obL lv) (w.setCell ⟨bw, 0, none⟩ (.slice (some ⟨g, 0, none⟩) m cap)) (w3.setCell ⟨bl, 0, none⟩ lv') := (F2.mono (fun j hj => by simp at hj; simp [hj])).trans F24 (fun j hj => .inl (List.mem_cons_of_mem _ hj))
  have F04 : Fr (bw :: bm :: bl :: obL lv) w (w3.setCell ⟨bl, 0, none⟩ lv') := (F1.mono (fun j hj => by simp at hj; simp [hj])).trans F14 (fun j hj => .inl (List.mem_cons_of_mem _ hj))
  have hs0 := F1.size
  have hs2 := F2.size
  have hs3 := F3.size
  have hgl : gl ∈ obL lv ∨ w.heap.size < gl := by
    rcases hat with h | h
    · exact .inl ((mem_ob lv gl).2 h)
    · exact .inr (by omega)
  obtain ⟨d1, d2, d3, d4, d5, d6, d7, d8, d9, d10⟩ := dd
  obtain ⟨b1, b2, b3, b4, b5⟩ := b
  have l1 := e.lt
  have l2 := st.lt
  have l3 := pm.lt
  have l4 := vw.lt
  have l5 := vl.lt
  have B04 : Below base w (w3.setCell ⟨bl, 0, none⟩ lv') := F04.below base (fun j hj => by
    simp only [List.mem_cons] at hj
    rcases hj with rfl | rfl | rfl | hj
    · exact b4
    · exact b3
    · exact b5
    · exact (rl.base j hj).1) hbs
  have B24 : Below base w2 (w3.setCell ⟨bl, 0, none⟩ lv') := F24.below base (fun j hj => by
    simp only [List.mem_cons] at hj
    rcases hj with rfl | hj
    · exact b5
    · exact (rl.base j hj).1) (by omega)
  refine ⟨_, .slice (some ⟨g, 0, none⟩) m cap, lv', _, ⟨rfl, ?_, ?_, pm2.keep (F24.block bm pm2.lt (fun h => ?_)) (fun a ha => ha.below B24), fun q hq => ?_, ?_, ⟨?_, fun j hj => ?_⟩, ?_, ⟨?_, fun j hj => ?_⟩, fun j hj => ?_, fun j hj => ?_, fun j hj => ?_, ⟨d1, d2, d3, d4, d5, d6, d7, d8, d9, d10⟩, ⟨b1, b2, b3, b4, b5⟩, ?_, fun q hq => ?_, fun q hq => ?_⟩, F04.mono fun j hj => ?_, fun j hj => ?_⟩
  · exact e.keep F04 (fun h => by
      simp only [List.mem_cons] at h
      rcases h with h | h | h | h
      · exact d3 h
      · exact d2 h
      · exact d4 h
      · exact (dl _ h).1 rfl)
  · exact st.keep F04 (fun h => by
      simp only [List.mem_cons] at h
      rcases h with h | h | h | h
      · exact d6 h
      · exact d5 h
      · exact d7 h
      · exact (dl _ h).2.1 rfl)
  · simp only [List.mem_cons] at h
    rcases h with h | h
    · exact d9 h
    · exact (dl _ h).2.2.1 rfl
  · have hne : q ≠ p := fun e => hq (e ▸ sub p (by rw [hw]; simp))
    rw [if_neg (fun e => hne (by injection e))]
    exact z q hq
  · exact (vw.set _).keep F14 (fun h => by
      simp only [List.mem_cons] at h
      rcases h with h | h | h
      · exact d8 h.symm
      · exact d10 h
      · exact (dl _ h).2.2.2.1 rfl)
  · rw [hA]
    refine own_keep hrow F04 (fun j hj h => ?_)
    have := (hdg' j).1 hj
    subst this
    simp only [List.mem_cons] at h
    rcases h with h | h | h | h
    · exact q4 h
    · exact q3 h
    · exact q5 h
    · exact q6 h
  · have := (hdg' j).1 ((mem_ob _ j).2 hj)
    subst this
    exact hg.1
  · have hv2 : Var w2 bl 76 lv := (vl.keep F1 (by simp; exact fun e => d10 e.symm)).keep F2 (by simp; exact fun e => d9 e.symm)
    exact (hv2.keep F3 (fun h => (dl _ h).2.2.2.2 rfl)).set _
  · have h2 := own_keep hown F4 (fun j hj hm => by
      obtain rfl : j = bl := by simpa using hm
      have := hob _ hj
      subst this
      rcases hgl with h | h
      · exact (dl _ h).2.2.2.2 rfl
      · omega)
    rw [List.length_append, List.map_append]
    exact h2
  · have := hob j ((mem_ob lv' j).2 hj)
    subst this
    rcases hgl with h | h
    · exact (rl.base _ h).1
    · show base ≤ j; omega
  · have := (hdg' j).1 hj
    subst this
    intro hl
    have := hob _ hl
    subst this
    rcases hgl with h | h
    · exact q6 h
    · omega
  · have := (hdg' j).1 hj
    subst this
    exact ⟨q1, q2, q3, q4, q5⟩
  · have := hob j hj
    subst this
    rcases hgl with h | h
    · exact dl _ h
    · omega
  · rw [hw] at n
    simp only [List.length_append, List.length_cons, List.length_nil] at n ⊢; omega
  · obtain ⟨h1, d', v', h2⟩ := nd q (by rw [hw]; exact List.mem_append_left _ hq)
    exact ⟨h1, d', v', (B04.block q h1).trans h2⟩
  · exact sub q (by rw [hw]; exact List.mem_append_left _ hq)
  · rw [hm]
    simp only [List.mem_cons, List.mem_append] at hj ⊢
    rcases hj with h | h | h | h
    · exact .inr (.inr (.inr (.inl h)))
    · exact .inr (.inr (.inl h))
    · exact .inr (.inr (.inr (.inr (.inl h))))
    · exact .inr (.inr (.inr (.inr (.inr (.inr h)))))
  · rw [hm]
    simp only [List.mem_cons, List.mem_append] at hj ⊢
    rcases hj with h | h | h | h | h | h | h
    · exact .inl (.inl h)
    · exact .inl (.inr (.inl h))
    · exact .inl (.inr (.inr (.inl h)))
    · exact .inl (.inr (.inr (.inr (.inl h))))
    · exact .inl (.inr (.inr (.inr (.inr (.inl h)))))
    · exact .inl (.inr (.inr (.inr (.inr (.inr (.inl ((hdg j).2 ((hdg' j).1 h))))))))
    · have := hob j h
      subst this
      rcases hgl with h | h
      · exact .inl (.inr (.inr (.inr (.inr (.inr (.inr h))))))
      · exact .inr (by omega)
/-- A node is left. -/
theorem rising2 (base be bs bm bw bl : Nat) (s : Rs) (M : List Nat) (w : World) (wv lv : Value) (f : Option Nat → Value) (h : RI base be bs bm bw bl s M w wv lv f) (A : List Nat) (p : Nat) (hw : s.way = A ++ [p]) (hc : s.vis.length ≤ 1048576) :
    Calls Tryz.prog 82 #[.pointer (some ⟨bw, 0, none⟩), .pointer (some ⟨bs, 0, none⟩), .pointer (some ⟨bl, 0, none⟩)] w fun e w' => e = .returned (.tuple #[]) ∧ ∃ M' wv' lv' f', RI base be bs bm bw bl ⟨s.vis, A, s.l ++ [p]⟩ M' w' wv' lv' f' ∧ Fr M w w' ∧ ∀ j ∈ M', j ∈ M ∨ w.heap.size ≤ j := by
  obtain ⟨i0, hi, hz0, hz1, hz2⟩ := info_parts infoP
  obtain ⟨m, hA⟩ : ∃ m, A.length = m := ⟨_, rfl⟩
  have hlen : s.way.length = m + 1 := by rw [hw, List.length_append, List.length_singleton, hA]
  obtain ⟨g, cap, hwv, cP⟩ := Row.cell h.rw m p (by rw [hw, List.getElem?_append_right (by omega), hA, Nat.sub_self]; rfl)
  rw [hlen] at hwv
  subst hwv
  have hbs : base ≤ w.heap.size := by have := h.e.lt; have := h.b; omega
  have HR := Lib.hid h
  obtain ⟨hm, e, st, pm, z, vw, rw', vl, rl, dj, dw, dl, dd, b, n, nd, sub⟩ := h
  have hcap : m + 1 ≤ cap ∧ cap ≤ 9223372036854775807 := by
    have h1 := rw'.1
    rw [hlen] at h1
    exact own_cap h1
  obtain ⟨hp, d, v, hn⟩ := nd p (by rw [hw]; simp)
  have hok : okNd base w (some p) := fun q hq => by
    obtain rfl : p = q := by simpa using hq
    exact ⟨hp, _, _, hn⟩
  have F1 := Fr.set w bw 0 (.slice (some ⟨g, 0, none⟩) m cap)
  have B1 : Below base w (w.setCell ⟨bw, 0, none⟩ (.slice (some ⟨g, 0, none⟩) m cap)) := F1.below base (fun j hj => by
    obtain rfl : j = bw := by simpa using hj
    exact b.2.2.2.1) hbs
  have pm1 : PMap (w.setCell ⟨bw, 0, none⟩ (.slice (some ⟨g, 0, none⟩) m cap)) encP (okNd base) bm (.int .i64 0) f := pm.keep (F1.block bm pm.lt (by simp; exact dd.2.2.2.2.2.2.2.1)) (fun a ha => ha.below B1)
  obtain ⟨w2, U1, pm2, g2⟩ := pm1.update (keyP base) Tryz.underlying108 (some p) (hok.below B1) (.int .i64 2)
  have s1 := st.keep F1 (by simp; exact dd.2.2.2.2.2.1)
  have l1 := vl.keep F1 (by simp; exact fun e => dd.2.2.2.2.2.2.2.2.2 e.symm)
  have F2 := Fr.of_grown g2
  have l2 := l1.keep F2 (by simp; exact fun e => dd.2.2.2.2.2.2.2.2.1 e.symm)
  have r2 := (rl.frame F1 (fun j hj => by simp; exact (dl j hj).2.2.2.1)).frame F2 (fun j hj => by simp; exact (dl j hj).2.2.1)
  have c0 := vw.c
  have f0 := vw.f
  have c1 := s1.c
  have c2 := l2.c
  have hs2 := g2.size
  have hs1 := F1.size
  simp only [encP, ptrV] at U1 cP
  have HX := Lib.hid (And.intro pm2 (And.intro g2 (And.intro l2 r2)))
  have hbln : bl ∉ obL lv := fun h => (dl bl h).2.2.2.2 rfl
  have HBL := Lib.hid hbln
  have hll : s.l.length ≤ 1048576 := by omega
  have hro := r2.1.alloc (.cells #[ptrV p] 33)
  have HN1 := Lib.hid (new1 w2 (ptrV p) 33)
  have HO1 := Lib.hid (one1 p)
  have HW := Lib.hid (And.intro hw hA)
  clear hm e st pm z vw rw' vl rl dj dw dl dd nd sub hbln F1 B1 pm1 pm2 g2 s1 l1 F2 l2 r2 hn hw hA hok
  simp only [ptrV] at hro HN1 HO1 ⊢
  go_enter Tryz.func82, Tryz.ntmps82
  go_wp2_with (at_builtin; refine wpList_append_lies _ rfl _ _ 76 rfl 0 33 i0 _ 1 8 Tryz.underlying76 hi hz0 hz1 hz2 rfl (by decide) lv s.l.length (s.l.map ptrV) rfl hro ⟨w2.heap.size, 0, none⟩ 1 1 [.pointer (some ⟨p, 0, none⟩)] rfl rfl HN1.out HO1.out (by decide) (by unfold maxLen; omega) (by omega) (by simp <;> omega) (w2.heap.size + 1) (by simp) ?_)
  intro gl capl w3 hown hgrow hat hlt3
  have hV3 : Var w3 bl 76 lv := (HX.out.2.2.1.keep (Fr.alloc _ _) (by simp)).keep (Fr.of_grown hgrow) (fun h => HBL.out h)
  have c5 := hV3.c
  have f5 := hV3.f
  have HG := Lib.hid hgrow
  have HO := Lib.hid hown
  have HA := Lib.hid hat
  have HV3 := Lib.hid hV3
  clear hgrow hown hat hV3 hro
  go_wp2_with fail
  go_end0
  exact ⟨rfl, rising2_end base be bs bm bw bl s M w g m cap lv f HR.out A p HW.out.1 HW.out.2 w2 HX.out.1 HX.out.2.1 gl capl w3 HO.out HG.out (HA.out.imp_right (fun h => Nat.le_of_eq h.symm))⟩
end Go.Proofs.YtliebhpddjbjeaaGreatDoor
