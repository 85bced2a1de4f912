/- KonstDoes: its operators; what comes is a value. -/
import Derived.Test.YtpnohljhpoildaaKnK3
import Derived.Test.YtpnohljhpoildaaKnR
namespace Go.Proofs.Ytpnohljhpoildaa
open Go.RowKit
set_option maxHeartbeats 4000000
set_option maxRecDepth 100000
set_option linter.unusedVariables false
set_option linter.unusedSimpArgs false

def opsA : List (List UInt8) := [[43], [45], [42], [47], [68, 73, 86], [77, 79, 68], [65, 78, 68], [79, 82], [61], [35], [60], [60, 61], [62], [62, 61], [73, 78], [78, 79, 84], [], [100, 105, 118]]
theorem opsA_cell (w : World) (k : Nat) (h : k < 18) : ∃ x, opsA[k]? = some x ∧ (w.alloc (.cells (opsA.map fun x => Value.string ⟨x.toArray⟩).toArray 9)).cell? ⟨w.heap.size, k, none⟩ = some (.string ⟨x.toArray⟩) ∧ x.length ≤ 4096 := by
  have hl : k < opsA.length := h
  refine ⟨opsA[k], List.getElem?_eq_getElem hl, ?_, ?_⟩
  · rw [World.cell?_alloc_at _ _ _ _ rfl]
    simp [List.getElem?_map, List.getElem?_eq_getElem hl]
  · have hall : ∀ y ∈ opsA, y.length ≤ 4096 := by decide
    exact hall _ (List.getElem_mem hl)
theorem ops_any (w : World) : Calls Try.prog 8 #[] w fun e w' => e = .returned (.slice (some ⟨w.heap.size, 0, none⟩) 18 18) ∧ w.alloc (.cells (opsA.map fun x => Value.string ⟨x.toArray⟩).toArray 9) = w' := by
  go_enter Try.func8, Try.ntmps8
  go_wp2_with fail
  go_ret
  exact ⟨rfl, rfl⟩
theorem fit_wf (n : Int) : (fitP n).1.wf := by
  unfold fitP
  split
  · rename_i h
    have := inW_bd h
    exact ⟨by show -9223372036854775808 ≤ n; omega, by show n ≤ 9223372036854775807; omega⟩
  · trivial
theorem ovr_wf (g : Int → Int → Int) (x y : Int) : (ovr g x y).1.wf := by
  unfold ovr
  split
  · trivial
  · exact fit_wf _
theorem mem_of_lookup {o : List UInt8} {g : Do2} : ∀ {l : List (List UInt8 × Do2)}, l.lookup o = some g → (o, g) ∈ l
  | [], h => by cases h
  | (k, v) :: l, h => by
    by_cases he : o = k
    · subst he
      simp [List.lookup] at h
      subst h
      exact List.mem_cons_self
    · have hb : (o == k) = false := beq_eq_false_iff_ne.2 he
      simp [List.lookup, hb] at h
      exact List.mem_cons_of_mem _ (mem_of_lookup h)
theorem tab_wf (t : Tn) (o : List UInt8) (g : Do2) (h : (tab t).lookup o = some g) (x y : Int) (hc : CondT t x y) : (g x y).1.wf := by
  have hm := mem_of_lookup h
  cases t <;> simp only [tab, List.mem_cons, List.not_mem_nil, or_false, Prod.mk.injEq] at hm
  · rcases hm with ⟨_, rfl⟩ | ⟨_, rfl⟩ | ⟨_, rfl⟩ | ⟨_, rfl⟩ | ⟨_, rfl⟩ | ⟨_, rfl⟩ <;> trivial
  · rcases hm with ⟨_, rfl⟩ | ⟨_, rfl⟩ | ⟨_, rfl⟩ | ⟨_, rfl⟩ | ⟨_, rfl⟩ <;> first | exact fit_wf _ | exact ovr_wf _ _ _
  · rcases hm with ⟨_, rfl⟩ | ⟨_, rfl⟩ <;> trivial
  · rcases hm with ⟨_, rfl⟩ | ⟨_, rfl⟩ | ⟨_, rfl⟩ | ⟨_, rfl⟩ | ⟨_, rfl⟩ | ⟨_, rfl⟩
    · exact or_w hc.1 hc.2
    · exact off_w hc.1 hc.2
    · exact and_w hc.1 hc.2
    · exact xor_w hc.1 hc.2
    · trivial
    · trivial
  · rcases hm with ⟨_, rfl⟩ | ⟨_, rfl⟩ <;> trivial
  · obtain ⟨_, rfl⟩ := hm; trivial
theorem first_in {l : List Tn} {o : List UInt8} {g : Do2} (h : firstT l o = some g) : ∃ t ∈ l, (tab t).lookup o = some g := by
  induction l with
  | nil => cases h
  | cons t l ih =>
    have h : (match (tab t).lookup o with | some g => some g | none => firstT l o) = some g := h
    cases ht : (tab t).lookup o with
    | some g' =>
      rw [ht] at h
      injection h with h
      subst h
      exact ⟨t, List.mem_cons_self, ht⟩
    | none =>
      rw [ht] at h
      obtain ⟨t', h1, h2⟩ := ih h
      exact ⟨t', List.mem_cons_of_mem _ h1, h2⟩
theorem does_wf (o : List UInt8) (a b : PV) (ha : a.wf) (hb : b.wf) : (doesP o a b).1.wf := by
  unfold doesP
  split
  · cases hf : firstT (rowsP (tellP a) (tellP b)) o with
    | none => trivial
    | some g =>
      obtain ⟨t, h1, h2⟩ := first_in hf
      exact tab_wf t o g h2 _ _ (cond_of a b ha hb t h1)
  · trivial
theorem one_wf (o : List UInt8) (a : PV) : (oneP o a).1.wf := by
  unfold oneP
  split
  · split
    · exact fit_wf _
    · trivial
  split
  · split
    · exact fit_wf _
    · trivial
  split
  · split <;> trivial
  · trivial
end Go.Proofs.Ytpnohljhpoildaa
