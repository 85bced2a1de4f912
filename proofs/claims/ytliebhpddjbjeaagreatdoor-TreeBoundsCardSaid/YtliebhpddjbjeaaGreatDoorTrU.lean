/- tree.rising, walked; what stands in the list that it makes. -/
import Derived.Test.YtliebhpddjbjeaaGreatDoorTrT
namespace Go.Proofs.YtliebhpddjbjeaaGreatDoor
open Go.RowKit
set_option maxHeartbeats 1000000
set_option linter.unusedVariables false

theorem self_post (t : Tr) : t ∈ postT t := by cases t; simp [postT]
theorem mem_postTL (l : List Tr) (t u : Tr) (ht : t ∈ l) (hu : u ∈ postT t) : u ∈ postTL l := by
  induction l with
  | nil => cases ht
  | cons a r ih =>
    simp only [postTL, List.mem_append]
    rcases List.mem_cons.1 ht with rfl | ht
    · exact .inl hu
    · exact .inr (ih ht)
/-- The kids of each stand ahead of it. -/
def Ord (l : List Tr) : Prop := ∀ (i : Nat) (u : Tr), l[i]? = some u → ∀ k ∈ u.ks, ∃ j, j < i ∧ l[j]? = some k
theorem Ord.app {a b : List Tr} (ha : Ord a) (hb : Ord b) : Ord (a ++ b) := by
  intro i u hi k hk
  by_cases h : i < a.length
  · rw [List.getElem?_append_left h] at hi
    obtain ⟨j, h1, h2⟩ := ha i u hi k hk
    exact ⟨j, h1, by rw [List.getElem?_append_left (by omega)]; exact h2⟩
  · rw [List.getElem?_append_right (by omega)] at hi
    obtain ⟨j, h1, h2⟩ := hb _ u hi k hk
    exact ⟨a.length + j, by omega, by rw [List.getElem?_append_right (by omega), Nat.add_sub_cancel_left]; exact h2⟩
mutual
theorem ord_post : ∀ t : Tr, Ord (postT t)
  | .node p d ks => by
    have h := ord_postL ks
    intro i u hi k hk
    rw [postT] at hi
    by_cases hl : i < (postTL ks).length
    · rw [List.getElem?_append_left hl] at hi
      obtain ⟨j, h1, h2⟩ := h i u hi k hk
      exact ⟨j, h1, by rw [postT, List.getElem?_append_left (by omega)]; exact h2⟩
    · rw [List.getElem?_append_right (by omega)] at hi
      have hlt := (List.getElem?_eq_some_iff.1 hi).1
      have hz : i - (postTL ks).length = 0 := by simp at hlt; omega
      rw [hz] at hi
      obtain rfl : Tr.node p d ks = u := by simpa using hi
      obtain ⟨j, hj, hj2⟩ := List.getElem_of_mem (mem_postTL ks k k hk (self_post k))
      exact ⟨j, by omega, by rw [postT, List.getElem?_append_left hj, List.getElem?_eq_getElem hj, hj2]⟩
theorem ord_postL : ∀ l : List Tr, Ord (postTL l)
  | [] => fun i u hi => by simp [postTL] at hi
  | t :: r => (ord_post t).app (ord_postL r)
end
mutual
theorem post_perm : ∀ t : Tr, ((postT t).map Tr.p).Perm t.nodes
  | .node p d ks => by
    rw [postT, List.map_append, Tr.nodes]
    exact (List.perm_append_comm.trans (.cons _ (post_permL ks)))
theorem post_permL : ∀ l : List Tr, ((postTL l).map Tr.p).Perm (nodesL l)
  | [] => .refl _
  | t :: r => by rw [postTL, List.map_append, nodesL]; exact (post_perm t).append (post_permL r)
end
theorem post_nodup (t : Tr) (h : t.nodes.Nodup) : ((postT t).map Tr.p).Nodup := (post_perm t).nodup_iff.2 h
theorem post_len (t : Tr) : (postT t).length = t.cnt := by
  rw [← List.length_map (f := Tr.p), (post_perm t).length_eq, nodes_len]
mutual
theorem IsT.post {w : World} {P : Nat → Prop} : ∀ {t : Tr}, IsT w P t → ∀ u ∈ postT t, IsT w P u
  | .node p d ks, h, u, hu => by
    rw [postT] at hu
    rcases List.mem_append.1 hu with hu | hu
    · exact IsTL.post h.2.2 u hu
    · obtain rfl : u = .node p d ks := by simpa using hu
      exact h
theorem IsTL.post {w : World} {P : Nat → Prop} : ∀ {l : List Tr}, IsTL w P l → ∀ u ∈ postTL l, IsT w P u
  | [], _, u, hu => by simp [postTL] at hu
  | t :: r, h, u, hu => by
    rw [postTL] at hu
    rcases List.mem_append.1 hu with hu | hu
    · exact IsT.post h.1 u hu
    · exact IsTL.post h.2 u hu
end
mutual
theorem post_cnt : ∀ (t : Tr), ∀ u ∈ postT t, u.cnt ≤ t.cnt
  | .node p d ks, u, hu => by
    rw [postT] at hu
    rcases List.mem_append.1 hu with hu | hu
    · have := post_cntL ks u hu; simp only [Tr.cnt]; omega
    · obtain rfl : u = .node p d ks := by simpa using hu
      exact Nat.le_refl _
theorem post_cntL : ∀ (l : List Tr), ∀ u ∈ postTL l, u.cnt ≤ cntL l
  | [], u, hu => by simp [postTL] at hu
  | t :: r, u, hu => by
    rw [postTL] at hu
    simp only [cntL]
    rcases List.mem_append.1 hu with hu | hu
    · have := post_cnt t u hu; omega
    · have := post_cntL r u hu; omega
end
theorem cnt_ks (t : Tr) : t.cnt = cntL t.ks + 1 := by cases t; simp only [Tr.cnt, Tr.ks]; omega
theorem deep_ks (t : Tr) : t.deep = deepL t.ks + 1 := by cases t; simp [Tr.deep, Tr.ks]
theorem deepL_app (a b : List Tr) : deepL (a ++ b) = max (deepL a) (deepL b) := by
  induction a with
  | nil => simp [deepL]
  | cons t r ih => simp [deepL, ih] <;> omega
mutual
theorem deep_le : ∀ t : Tr, t.deep ≤ t.cnt
  | .node p d ks => by have := deepL_le ks; simp only [Tr.deep, Tr.cnt]; omega
theorem deepL_le : ∀ l : List Tr, deepL l ≤ cntL l
  | [] => Nat.le_refl _
  | t :: r => by have := deep_le t; have := deepL_le r; simp only [deepL, cntL]; omega
end
theorem cntL_snoc (l : List Tr) (k : Tr) : cntL (l ++ [k]) = cntL l + k.cnt := by rw [cntL_app]; simp [cntL]
theorem deepL_snoc (l : List Tr) (k : Tr) : deepL (l ++ [k]) = max (deepL l) k.deep := by rw [deepL_app]; simp [deepL]
theorem cntL_take (l : List Tr) (i : Nat) : cntL (l.take i) ≤ cntL l := by
  have := cntL_app (l.take i) (l.drop i)
  rw [List.take_append_drop] at this; omega
theorem kslen_le (l : List Tr) : l.length ≤ cntL l := by
  induction l with
  | nil => exact Nat.le_refl _
  | cons t r ih => have := cnt_pos t; simp only [cntL, List.length_cons]; omega
/-- Nodes of unlike numbers are unlike. -/
theorem p_inj (l : List Tr) (h : (l.map Tr.p).Nodup) (u v : Tr) (hu : u ∈ l) (hv : v ∈ l) (e : u.p = v.p) : u = v := by
  induction l with
  | nil => cases hu
  | cons a r ih =>
    rw [List.map_cons, List.nodup_cons] at h
    rcases List.mem_cons.1 hu with h1 | h1 <;> rcases List.mem_cons.1 hv with h2 | h2
    · rw [h1, h2]
    · exact absurd (List.mem_map.2 ⟨v, h2, by rw [← e, h1]⟩) h.1
    · exact absurd (List.mem_map.2 ⟨u, h1, by rw [e, h2]⟩) h.1
    · exact ih h.2 h1 h2
end Go.Proofs.YtliebhpddjbjeaaGreatDoor
