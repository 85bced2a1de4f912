/- What New leaves, and the document's example. -/
import Derived.Test.YtbfclibjnanlgaaGreatDoorTrN
import Derived.Test.YtbfclibjnanlgaaGreatDoorTrJ
import Derived.Test.YtbfclibjnanlgaaGreatDoorTrM
import Derived.Test.YtbfclibjnanlgaaGreatDoorTrC
import Derived.Test.YtbfclibjnanlgaaGreatDoorTrD
import Derived.Test.YtbfclibjnanlgaaGreatDoorRdG
namespace Go.Proofs.YtbfclibjnanlgaaGreatDoor
open Go.RowKit
set_option maxHeartbeats 4000000
set_option maxRecDepth 100000
set_option linter.unusedVariables false
set_option linter.unusedSimpArgs false

/-! ### What New leaves -/
theorem Fill.get {lo hi : Nat} {os : List (Option Tr)} {ts : List Tr} (h : Fill lo hi os ts) : ∀ (i : Nat) (o : Option Tr), os[i]? = some o → ∃ t, ts[i]? = some t ∧ (o = some t ∨ o = none ∧ ∃ g, lo ≤ g ∧ g < hi ∧ t = .node g d0 []) := by
  induction h with
  | nil => intro i o h; simp at h
  | @keep hi os ts t h ih =>
    intro i o ho
    have hl := h.len
    by_cases hi2 : i < os.length
    · rw [List.getElem?_append_left hi2] at ho
      obtain ⟨u, h1, h2⟩ := ih i o ho
      exact ⟨u, by rw [List.getElem?_append_left (by omega)]; exact h1, h2⟩
    · rw [List.getElem?_append_right (by omega)] at ho
      have : i - os.length = 0 := by
        rcases Nat.eq_zero_or_pos (i - os.length) with h0 | h0
        · exact h0
        · rw [List.getElem?_eq_none (by simp; omega)] at ho; cases ho
      rw [this] at ho
      simp at ho
      subst ho
      exact ⟨t, by rw [List.getElem?_append_right (by omega), hl, this]; rfl, .inl rfl⟩
  | @made hi os ts g hi' h h1 h2 h3 ih =>
    intro i o ho
    have hl := h.len
    by_cases hi2 : i < os.length
    · rw [List.getElem?_append_left hi2] at ho
      obtain ⟨u, k1, k2⟩ := ih i o ho
      refine ⟨u, by rw [List.getElem?_append_left (by omega)]; exact k1, ?_⟩
      rcases k2 with k2 | ⟨k2, g', k3, k4, k5⟩
      · exact .inl k2
      · exact .inr ⟨k2, g', k3, by omega, k5⟩
    · rw [List.getElem?_append_right (by omega)] at ho
      have : i - os.length = 0 := by
        rcases Nat.eq_zero_or_pos (i - os.length) with h0 | h0
        · exact h0
        · rw [List.getElem?_eq_none (by simp; omega)] at ho; cases ho
      rw [this] at ho
      simp at ho
      subst ho
      exact ⟨_, by rw [List.getElem?_append_right (by omega), hl, this]; rfl, .inr ⟨rfl, g, h1, h3, rfl⟩⟩
/-- The trees that were handed in. -/
def somes (os : List (Option Tr)) : List Tr := os.filterMap id
theorem Fill.nodup {lo hi : Nat} {os : List (Option Tr)} {ts : List Tr} (h : Fill lo hi os ts) (hn : (nodesL (somes os)).Nodup) (hl : ∀ p ∈ nodesL (somes os), p < lo) : (nodesL ts).Nodup ∧ ∀ p ∈ nodesL ts, (p ∈ nodesL (somes os) ∨ lo ≤ p ∧ p < hi) := by
  induction h with
  | nil => simp [nodesL]
  | @keep hi os ts t h ih =>
    have e : somes (os ++ [some t]) = somes os ++ [t] := by simp [somes]
    rw [e, nodesL_app] at hn hl
    simp only [nodesL, List.append_nil] at hn hl
    rw [List.nodup_append] at hn
    obtain ⟨i1, i2⟩ := ih hn.1 (fun p hp => hl p (List.mem_append_left _ hp))
    rw [nodesL_app, e, nodesL_app]
    simp only [nodesL, List.append_nil]
    refine ⟨List.nodup_append.2 ⟨i1, hn.2.1, fun a ha b hb e => ?_⟩, fun p hp => ?_⟩
    · subst e
      rcases i2 a ha with h1 | ⟨h1, h2⟩
      · exact hn.2.2 a h1 a hb rfl
      · have := hl a (List.mem_append_right _ hb); omega
    · rcases List.mem_append.1 hp with hp | hp
      · rcases i2 p hp with h1 | h1
        · exact .inl (List.mem_append_left _ h1)
        · exact .inr h1
      · exact .inl (List.mem_append_right _ hp)
  | @made hi os ts g hi' h h1 h2 h3 ih =>
    have e : somes (os ++ [none]) = somes os := by simp [somes]
    rw [e] at hn hl
    obtain ⟨i1, i2⟩ := ih hn hl
    rw [nodesL_app, e]
    simp only [nodesL, Tr.nodes, List.append_nil]
    refine ⟨List.nodup_append.2 ⟨i1, by simp, fun a ha b hb e => ?_⟩, fun p hp => ?_⟩
    · subst e
      obtain rfl : a = g := by simpa using hb
      rcases i2 a ha with h1 | ⟨h1, h2⟩
      · have := hl a h1; omega
      · omega
    · rcases List.mem_append.1 hp with hp | hp
      · rcases i2 p hp with h1 | ⟨h1, h4⟩
        · exact .inl h1
        · exact .inr ⟨h1, by omega⟩
      · obtain rfl : p = g := by simpa using hp
        exact .inr ⟨h1, h3⟩
theorem NS.tree {w w' : World} {p : Nat} {d : ND} {os : List (Option Tr)} {v : Value} {out : List Tr} (h : NS w p d os w' v out) {P : Nat → Prop} (hT : ∀ t, some t ∈ os → IsT w P t) : IsT w' (fun j => P j ∨ w.heap.size ≤ j) (.node p d out) := by
  refine ⟨.inr h.p, ⟨v, h.n, h.r.keep (fun j hj _ => .inr hj) (fun _ _ _ => rfl)⟩, IsTL.of fun t ht => ?_⟩
  rcases h.l t ht with h1 | ⟨g, rfl, h2, h3⟩
  · exact (hT t h1).keep (fun j hj _ => .inl hj) (fun j _ hl => h.b.block j hl)
  · exact ⟨.inr (Nat.le_trans h.p (Nat.le_of_lt h2)), ⟨_, h3, ⟨World.ownsRow_nil _ _ _ _, fun g hg => (by cases hg)⟩⟩, trivial⟩
/-! ### What was read is the same -/
theorem alikeN (d : ND) (n : Nat) : alikeD d (ndN d) n n = true := by simp [alikeD, ndN]
theorem nrmL_len : ∀ l : List DT, (nrmL l).length = l.length
  | [] => rfl
  | _ :: r => by simp [nrmL, nrmL_len r]
theorem dtL_len : ∀ l : List Tr, (dtL l).length = l.length
  | [] => rfl
  | _ :: r => by simp [dtL, dtL_len r]
mutual
theorem same_nrm : ∀ t u : Tr, u.dt = t.dt.nrm → sameT t u = true
  | .node p d ks, .node q e ls, h => by
    simp only [Tr.dt, DT.nrm] at h
    injection h with h1 h2
    have hl : ls.length = ks.length := by rw [← dtL_len ls, h2, nrmL_len, dtL_len]
    rw [sameT, h1, hl, alikeN, same_nrmL ks ls h2]
    rfl
theorem same_nrmL : ∀ ks ls : List Tr, dtL ls = nrmL (dtL ks) → sameTL ks ls = true
  | [], _, _ => by simp [sameTL]
  | _ :: _, [], h => by simp [dtL, nrmL] at h
  | t :: r, u :: s, h => by
    simp only [dtL, nrmL] at h
    injection h with h1 h2
    rw [sameTL, same_nrm t u h1, same_nrmL r s h2]
    rfl
end
theorem dd1 (u : Nat) (h : u < 10) : Lib.decDigits u = [UInt8.ofNat (48 + u)] := by rw [Lib.decDigits, dif_pos h]
end Go.Proofs.YtbfclibjnanlgaaGreatDoor
