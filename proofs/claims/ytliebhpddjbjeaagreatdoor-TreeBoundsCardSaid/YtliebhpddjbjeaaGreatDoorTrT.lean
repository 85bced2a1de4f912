/- tree.rising, walked. -/
import Derived.Test.YtliebhpddjbjeaaGreatDoorTrS
namespace Go.Proofs.YtliebhpddjbjeaaGreatDoor
open Go.RowKit
set_option maxHeartbeats 2000000
set_option maxRecDepth 100000
set_option linter.unusedVariables false

mutual
/-- The trees within a tree, each behind those below it. -/
def postT : Tr → List Tr
  | .node p d ks => postTL ks ++ [.node p d ks]
def postTL : List Tr → List Tr
  | [] => []
  | t :: r => postT t ++ postTL r
end
mutual
theorem run_rs : ∀ (t : Tr) (s : Rs), (runTr Rs.en Rs.lv t s).way = s.way ∧ (runTr Rs.en Rs.lv t s).l = s.l ++ (postT t).map Tr.p
  | .node p d ks, s => by
    obtain ⟨h1, h2⟩ := run_rsL ks (Rs.en (.node p d ks) s)
    rw [runTr]
    constructor
    · show (runLr Rs.en Rs.lv ks (Rs.en (.node p d ks) s)).way.dropLast = s.way
      rw [h1]; simp [Rs.en]
    · show (runLr Rs.en Rs.lv ks (Rs.en (.node p d ks) s)).l ++ [(runLr Rs.en Rs.lv ks (Rs.en (.node p d ks) s)).way.getLast?.getD 0] = _
      rw [h1, h2]; simp [Rs.en, postT, Tr.p]
theorem run_rsL : ∀ (l : List Tr) (s : Rs), (runLr Rs.en Rs.lv l s).way = s.way ∧ (runLr Rs.en Rs.lv l s).l = s.l ++ (postTL l).map Tr.p
  | [], s => by simp [runLr, postTL]
  | t :: r, s => by
    obtain ⟨h1, h2⟩ := run_rs t s
    obtain ⟨h3, h4⟩ := run_rsL r (runTr Rs.en Rs.lv t s)
    rw [runLr]
    exact ⟨h3.trans h1, by rw [h4, h2]; simp [postTL]⟩
end
theorem nodesL_cons (t : Tr) (r : List Tr) : nodesL (t :: r) = t.p :: (nodesL t.ks ++ nodesL r) := by
  cases t; simp [nodesL, Tr.nodes, Tr.p, Tr.ks]
theorem q_ent (s : Rs) (n : Nat) (t : Tr) (r : List Tr) (h : Rs.Q n (t :: r) s) : Rs.Q (n + 1) (t.ks ++ r) (Rs.en t s) := by
  obtain ⟨h1, h2, h3, h4⟩ := h
  rw [nodesL_cons] at h1 h2
  rw [List.nodup_cons] at h1
  refine ⟨by rw [nodesL_app]; exact h1.2, fun p hp => ?_, by simp [Rs.en, h3], ?_⟩
  · rw [nodesL_app] at hp
    have h5 := h2 p (List.mem_cons_of_mem _ hp)
    simp only [Rs.en, List.mem_cons, not_or]
    exact ⟨fun e => h1.1 (e ▸ hp), h5⟩
  · rw [cntL_app]
    cases t
    simp only [cntL, Tr.cnt, Rs.en, Tr.ks, List.length_cons] at h4 ⊢
    omega
theorem q_lev (s : Rs) (n : Nat) (r : List Tr) (h : Rs.Q (n + 1) r s) : Rs.Q n r (Rs.lv s) := by
  obtain ⟨h1, h2, h3, h4⟩ := h
  exact ⟨h1, h2, by simp [Rs.lv, h3], h4⟩
/-- The closures of rising. -/
theorem cl_rising (base be bs bm bw bl : Nat) : Clr base (fun s M w => ∃ wv lv f, RI base be bs bm bw bl s M w wv lv f) Rs.en Rs.lv Rs.Q [.pointer (some ⟨be, 0, none⟩), .pointer (some ⟨bs, 0, none⟩), .pointer (some ⟨bw, 0, none⟩)] [.pointer (some ⟨bw, 0, none⟩), .pointer (some ⟨bs, 0, none⟩), .pointer (some ⟨bl, 0, none⟩)] where
  lt := fun s M w ⟨wv, lv, f, h⟩ j hj => (ri_lt h j hj).1
  keep := fun s M w w' N ⟨wv, lv, f, h⟩ hF hN => ⟨wv, lv, f, ri_keep h hF hN⟩
  ent := fun s M w n t r v ⟨wv, lv, f, h⟩ hq hn hp hb => by
    obtain ⟨q1, q2, q3, q4⟩ := hq
    rw [nodesL_cons] at q2
    refine (rising1 base be bs bm bw bl s M w wv lv f h t.p t.d v (q2 _ List.mem_cons_self) hn hp (by omega)).mono ?_
    rintro e w' ⟨rfl, M', wv', f', h1, h2, h3⟩
    exact ⟨rfl, M', ⟨wv', lv, f', h1⟩, h2, h3⟩
  lev := fun s M w n r ⟨wv, lv, f, h⟩ hq hb => by
    obtain ⟨q1, q2, q3, q4⟩ := hq
    have hne : s.way ≠ [] := fun e => by rw [e] at q3; simp at q3
    refine (rising2 base be bs bm bw bl s M w wv lv f h s.way.dropLast (s.way.getLast hne) (List.dropLast_concat_getLast hne).symm (by omega)).mono ?_
    rintro e w' ⟨rfl, M', wv', lv', f', h1, h2, h3⟩
    refine ⟨rfl, M', ⟨wv', lv', f', ?_⟩, h2, h3⟩
    have : Rs.lv s = ⟨s.vis, s.way.dropLast, s.l ++ [s.way.getLast hne]⟩ := by simp [Rs.lv, List.getLast?_eq_some_getLast hne]
    rw [this]; exact h1
  qent := q_ent
  qlev := q_lev
  big := fun s M w ⟨wv, lv, f, h⟩ j hj => (ri_lt h j hj).2
end Go.Proofs.YtliebhpddjbjeaaGreatDoor
