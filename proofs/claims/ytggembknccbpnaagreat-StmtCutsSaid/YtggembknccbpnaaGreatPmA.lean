/- A map that a call makes, its keys of whatever kind can be compared (pointers, pairs of pointers): laws at the operations. No program stands in here. -/
import Derived.Maps.Own
import Derived.LaidEql
namespace Go.Proofs.YtggembknccbpnaaGreat
open Go Go.Maps Go.ChangeMaps

/-- What is asked of a type of keys: enc says how a key is written as a value, ok what the world must hold for it. -/
structure KeyK (P : Program) (kt : TypeId) {α : Type} [DecidableEq α] (enc : α → Value) (ok : World → α → Prop) : Prop where
  und : ∃ d, P.underlying kt = some d ∧ ∀ a b, Instr.sameNow d (enc a) (enc b) = none
  check : ∀ (w : World) (em : Bool) (a : α), (Instr.checkKey em 10000 kt (enc a)).run P w = .ok () w
  eq : ∀ (w : World) (a b : α), ok w a → ok w b → (Op.equal kt (enc a) (enc b)).run P w = .ok (decide (a = b)) w
  stays : ∀ a, Instr.sameBits 10000 (enc a) (enc a) = true
  set : ∀ (w w' : World) (b : Nat) (es : Array MapEntry) (c : Nat), w.heap[b]? = some (.map es c) → (∀ j, j ≠ b → w'.heap[j]? = w.heap[j]?) → ∀ a, ok w a → ok w' a
variable {α : Type} [DecidableEq α]
/-- What a list of entries says of a key. -/
def lookP (l : List (α × Value)) (k : α) (z : Value) : Value := ((l.find? fun e => decide (k = e.1)).map (·.2)).getD z
/-- Block b is a map that says f of its keys (z: what is said of what is no key). -/
def PMap (w : World) (enc : α → Value) (ok : World → α → Prop) (b : Nat) (z : Value) (f : α → Value) : Prop :=
  ∃ es clock, w.heap[b]? = some (.map es clock) ∧ ∃ l : List (α × Value), es.toList.map (fun e => (e.key, e.val)) = l.map (fun x => (enc x.1, x.2)) ∧ (∀ x ∈ l, ok w x.1) ∧ ∀ k, lookP l k z = f k
variable {P : Program} {kt : TypeId} {enc : α → Value} {ok : World → α → Prop}
theorem PMap.keep {w w' : World} {b : Nat} {z : Value} {f : α → Value} (h : PMap w enc ok b z f) (hb : w'.heap[b]? = w.heap[b]?) (ho : ∀ a, ok w a → ok w' a) : PMap w' enc ok b z f := by
  obtain ⟨es, c, h1, l, h2, h3, h4⟩ := h
  exact ⟨es, c, hb.trans h1, l, h2, fun x hx => ho _ (h3 x hx), h4⟩
theorem PMap.lt {w : World} {b : Nat} {z : Value} {f : α → Value} (h : PMap w enc ok b z f) : b < w.heap.size := by
  obtain ⟨es, c, h1, _⟩ := h
  exact (Array.getElem?_eq_some_iff.1 h1).1
theorem PMap.made (w : World) (enc : α → Value) (ok : World → α → Prop) (z : Value) : PMap (w.alloc (.map #[] 0)) enc ok w.heap.size z (fun _ => z) :=
  ⟨#[], 0, (MapKept.heap_alloc w _).1, [], rfl, by simp, fun _ => rfl⟩
theorem find_ask (H : KeyK P kt enc ok) (w : World) (k : α) (hk : ok w k) : ∀ (es : List MapEntry) (l : List (α × Value)) (i : Nat), es.map (fun e => (e.key, e.val)) = l.map (fun x => (enc x.1, x.2)) → (∀ x ∈ l, ok w x.1) →
    ((Instr.findAsking kt (enc k) es i).run P w = .ok none w ∧ ∀ x ∈ l, k ≠ x.1) ∨
    ∃ j x e, (Instr.findAsking kt (enc k) es i).run P w = .ok (some (i + j, x.2)) w ∧ l[j]? = some x ∧ es[j]? = some e ∧ e.key = enc k ∧ e.val = x.2 ∧ k = x.1 ∧ l.find? (fun e => decide (k = e.1)) = some x ∧ ∀ y ∈ l.take j, k ≠ y.1
  | [], l, i, hl, hall => by
    have : l = [] := by simpa using hl.symm
    subst this
    exact .inl ⟨by simp [Instr.findAsking], by simp⟩
  | e :: es, [], i, hl, hall => by simp at hl
  | e :: es, x :: l, i, hl, hall => by
    simp only [List.map_cons, List.cons.injEq, Prod.mk.injEq] at hl
    obtain ⟨⟨hl1, hl2⟩, hl3⟩ := hl
    have he := H.eq w k x.1 hk (hall x (by simp))
    rw [← hl1] at he
    by_cases h : k = x.1
    · rw [decide_eq_true h] at he
      exact .inr ⟨0, x, e, by simp [Instr.findAsking, he, hl2], rfl, rfl, by rw [hl1, h], hl2, h, by simp [h], by simp⟩
    · rw [decide_eq_false h] at he
      rcases find_ask H w k hk es l (i + 1) hl3 (fun y hy => hall y (by simp [hy])) with ⟨h1, h2⟩ | ⟨j, x', e', h1, h2, h3, h4, h5, h6, h7, h8⟩
      · refine .inl ⟨by simp [Instr.findAsking, he, h1], fun y hy => ?_⟩
        rcases List.mem_cons.1 hy with rfl | hy
        · exact h
        · exact h2 y hy
      · refine .inr ⟨j + 1, x', e', by simp [Instr.findAsking, he, h1, Nat.add_assoc, Nat.add_comm 1 j], by simpa using h2, by simpa using h3, h4, h5, h6, by simp [List.find?, h, h7], fun y hy => ?_⟩
        rw [List.take_succ_cons] at hy
        rcases List.mem_cons.1 hy with rfl | hy
        · exact h
        · exact h8 y hy
theorem find_key (H : KeyK P kt enc ok) (w : World) (k : α) (es : List MapEntry) (l : List (α × Value)) (hl : es.map (fun e => (e.key, e.val)) = l.map (fun x => (enc x.1, x.2))) : (Instr.findKey kt (enc k) es).run P w = (Instr.findAsking kt (enc k) es).run P w := by
  obtain ⟨d, hd, hn⟩ := H.und
  cases es with
  | nil => simp [Instr.findKey, run_underlying hd, Instr.findNow, Instr.findAsking]
  | cons e es =>
    cases l with
    | nil => simp at hl
    | cons x l =>
      simp only [List.map_cons, List.cons.injEq, Prod.mk.injEq] at hl
      have := hn k x.1
      rw [← hl.1.1] at this
      simp [Instr.findKey, run_underlying hd, Instr.findNow, this]
theorem look_none (l : List (α × Value)) (k : α) (z : Value) (h : ∀ x ∈ l, k ≠ x.1) : lookP l k z = z := by
  unfold lookP
  rw [List.find?_eq_none.2 (fun x hx => by simpa using h x hx)]
  rfl
theorem PMap.lookup {w : World} {b : Nat} {f : α → Value} {z : Value} (H : KeyK P kt enc ok) (hm : PMap w enc ok b z f) {t e : TypeId} (ht : P.underlying t = some (.map kt e)) (hz : (zeroValue e).run P w = .ok z w) (k : α) (hk : ok w k) :
    (Instr.lookup t (.map (some b)) (enc k) false).run P w = .ok (f k) w := by
  obtain ⟨es, clock, hb, l, hl, hall, hf⟩ := hm
  have hfk := find_key H w k es.toList l hl
  rw [← hf k]
  rcases find_ask H w k hk es.toList l 0 hl hall with ⟨h1, h2⟩ | ⟨j, x, e0, h1, h2, h3, h4, h5, h6, h7, h8⟩
  · rw [look_none l k z h2]
    rw [h1] at hfk
    simp [Instr.lookup, run_underlying ht, MapKept.run_getObj_map hb, H.check w _ k, hfk, hz, Result.andThen]
  · have : lookP l k z = x.2 := by unfold lookP; rw [h7]; rfl
    rw [this]
    rw [h1] at hfk
    simp [Instr.lookup, run_underlying ht, MapKept.run_getObj_map hb, H.check w _ k, hfk, Result.andThen]
theorem map_modify {β γ : Type} (g : β → γ) (m : β → β) (m' : γ → γ) (h : ∀ x, g (m x) = m' (g x)) (l : List β) (i : Nat) : (l.modify i m).map g = (l.map g).modify i m' := by
  induction l generalizing i with
  | nil => simp
  | cons a r ih => cases i <;> simp [List.modify_cons, h, ih]
theorem find_modify (l : List (α × Value)) (j : Nat) (x : α × Value) (v z : Value) (hx : l[j]? = some x) (hfirst : ∀ y ∈ l.take j, x.1 ≠ y.1) (k : α) :
    lookP (l.modify j fun e => (e.1, v)) k z = if k = x.1 then v else lookP l k z := by
  induction l generalizing j with
  | nil => simp at hx
  | cons a r ih =>
    cases j with
    | zero =>
      simp at hx; subst hx
      unfold lookP
      by_cases h : k = a.1
      · simp [h]
      · simp [List.find?, h]
    | succ j =>
      have h1 := ih j (by simpa using hx) (fun y hy => hfirst y (by rw [List.take_succ_cons]; exact List.mem_cons_of_mem _ hy))
      have ha : x.1 ≠ a.1 := hfirst a (by rw [List.take_succ_cons]; simp)
      unfold lookP at h1 ⊢
      rw [List.modify_succ_cons]
      by_cases h : k = a.1
      · have : k ≠ x.1 := fun e => ha (by rw [← e, h])
        simp [List.find?, h, Ne.symm ha]
      · simp only [List.find?, decide_eq_false h]
        exact h1
theorem PMap.update {w : World} {b : Nat} {f : α → Value} {z : Value} (H : KeyK P kt enc ok) (hm : PMap w enc ok b z f) {t e : TypeId} (ht : P.underlying t = some (.map kt e)) (k : α) (hk : ok w k) (v : Value) :
    ∃ w', (Instr.mapUpdate t (.map (some b)) (enc k) v).run P w = .ok () w' ∧ PMap w' enc ok b z (fun a => if a = k then v else f a) ∧ w.grownBy w' (some b) := by
  obtain ⟨es, clock, hb, l, hl, hall, hf⟩ := hm
  have hfk := find_key H w k es.toList l hl
  have key : ∀ (es' : Array MapEntry) (c' : Nat) (l' : List (α × Value)), es'.toList.map (fun e => (e.key, e.val)) = l'.map (fun x => (enc x.1, x.2)) → (∀ x ∈ l', ok w x.1) → (∀ a, lookP l' a z = if a = k then v else f a) →
      PMap (setBlock w b (.map es' c')) enc ok b z (fun a => if a = k then v else f a) ∧ w.grownBy (setBlock w b (.map es' c')) (some b) := by
    intro es' c' l' g1 g2 g3
    have hset := H.set w (setBlock w b (.map es' c')) b es clock hb (fun j hj => heap_setBlock_other hb _ hj)
    exact ⟨⟨es', c', heap_setBlock_same hb _, l', g1, fun x hx => hset _ (g2 x hx), g3⟩, ⟨rfl, rfl, rfl, by simp [setBlock], fun i _ hi => heap_setBlock_other hb _ (fun e => hi (by rw [e]))⟩⟩
  rcases find_ask H w k hk es.toList l 0 hl hall with ⟨h1, h2⟩ | ⟨j, x, e0, h1, h2, h3, h4, h5, h6, h7, h8⟩
  · rw [h1] at hfk
    refine ⟨setBlock w b (.map (es.push { key := enc k, val := v, born := clock }) (clock + 1)), ?_, key _ _ (l ++ [(k, v)]) (by simp [hl]) (fun x hx => ?_) (fun a => ?_)⟩
    · simp [Instr.mapUpdate, run_underlying ht, MapKept.run_getObj_map hb, H.check w false k, hfk, MapKept.run_setObj_map _ hb, Result.andThen, setBlock]
    · rcases List.mem_append.1 hx with hx | hx
      · exact hall x hx
      · obtain rfl := List.mem_singleton.1 hx
        exact hk
    · rw [← hf a]
      unfold lookP
      rw [List.find?_append]
      by_cases h : a = k
      · subst h
        rw [if_pos rfl, List.find?_eq_none.2 (fun x hx => by simpa using h2 x hx)]
        simp
      · rw [if_neg h]
        cases hq : l.find? fun e => decide (a = e.1) <;> simp [h]
  · rw [h1] at hfk
    have hes : es[j]? = some e0 := by simpa using h3
    have hst : (Instr.keyThatStays (enc k) (enc k)).run P w = .ok (enc k) w := by simp [Instr.keyThatStays, H.stays k]
    refine ⟨setBlock w b (.map (es.modify j fun e => { e with key := enc k, val := v }) clock), ?_, key _ _ (l.modify j fun e => (e.1, v)) ?_ (fun y hy => ?_) (fun a => ?_)⟩
    · simp [Instr.mapUpdate, run_underlying ht, MapKept.run_getObj_map hb, H.check w false k, hfk, hes, h4, hst, MapKept.run_setObj_map _ hb, Result.andThen, setBlock]
    · rw [Array.toList_modify, map_modify (fun e : MapEntry => (e.key, e.val)) _ (fun _ => (enc k, v)) (fun _ => rfl), hl, map_modify (fun x : α × Value => (enc x.1, x.2)) (fun e => (e.1, v)) (fun y => (y.1, v)) (fun _ => rfl)]
      apply List.ext_getElem?
      intro i
      rw [List.getElem?_modify, List.getElem?_modify]
      by_cases hi : j = i
      · subst hi
        rw [List.getElem?_map, h2]
        simp [h6]
      · simp [hi]
    · obtain ⟨i, hi⟩ := List.mem_iff_getElem?.1 hy
      rw [List.getElem?_modify] at hi
      obtain ⟨q, hq, rfl⟩ := Option.map_eq_some_iff.1 hi
      have hqm := hall q (List.mem_of_getElem? hq)
      split <;> exact hqm
    · rw [find_modify l j x v z h2 (fun y hy => by rw [← h6]; exact h8 y hy) a, hf a, ← h6]
end Go.Proofs.YtggembknccbpnaaGreat
