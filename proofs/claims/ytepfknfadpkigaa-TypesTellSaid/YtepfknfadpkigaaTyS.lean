/- Law 11: both tables side by side. -/
import Derived.Test.YtepfknfadpkigaaTyR
namespace Go.Proofs.Ytepfknfadpkigaa
open Go.RowKit
set_option maxHeartbeats 1000000
set_option maxRecDepth 100000
set_option linter.unusedVariables false
set_option linter.unusedSimpArgs false

def encM (m : MaV) : List Value := (#[.int .u8 m.k, .int .u16 m.b, .int .u16 m.x, .int .i32 m.lo, .int .i32 m.hi, .slice m.ps.p m.ps.n m.ps.c, .slice m.vs.p m.vs.n m.vs.c] : Array Value).toList
/-- What types are made of, that came in. -/
structure Mades (w : World) (v : Sl) (ls : List (MaV × List Int × List Bool)) : Prop where
  row : Row w 0 v encM 7 (ls.map (·.1))
  ok : ∀ x ∈ ls, MaOk x.1 x.2.1 ∧ Row w 0 x.1.ps encU 1 x.2.1 ∧ Row w 0 x.1.vs encB 1 x.2.2
theorem Mades.on {w w' : World} {v : Sl} {ls : List (MaV × List Int × List Bool)} (h : Mades w v ls) (k : Bl w w') : Mades w' v ls := ⟨h.row.on k, fun x hx => ⟨(h.ok x hx).1, (h.ok x hx).2.1.on k, (h.ok x hx).2.2.on k⟩⟩
/-- What has no lists but parameters. -/
def flatK (c : TyK) : Prop := c.ns = [] ∧ c.fs = [] ∧ c.rs = [] ∧ c.ps.length ≤ 6
theorem flat0 : ∀ c ∈ K0, flatK c := by
  intro c hc
  simp only [K0, List.mem_cons, List.not_mem_nil, or_false] at hc
  rcases hc with rfl | rfl | rfl | rfl | rfl | rfl | rfl | rfl | rfl | rfl <;> exact ⟨rfl, rfl, rfl, by decide⟩
/-- Both tables. -/
structure Two (w wr : World) (t t2 : Nat) (K : List TyK) (L L2 : List TyV) (g cap g2 cap2 : Nat) : Prop where
  b : Bl w wr
  p : TabK wr t g cap [t, g, t2, g2] L K
  d : DTabK wr t2 g2 cap2 [t, g, t2, g2] L2 K
  ne : t ≠ t2 ∧ t ≠ g2 ∧ g ≠ t2 ∧ g ≠ g2
  lo : w.heap.size ≤ t ∧ w.heap.size ≤ g ∧ w.heap.size ≤ t2 ∧ w.heap.size ≤ g2
  f : ∀ c ∈ K, flatK c
theorem Two.on {w wr w' : World} {t t2 : Nat} {K : List TyK} {L L2 : List TyV} {g cap g2 cap2 : Nat} (h : Two w wr t t2 K L L2 g cap g2 cap2) (k : Bl wr w') : Two w w' t t2 K L L2 g cap g2 cap2 := ⟨h.b.on k, h.p.on k, h.d.on k, h.ne, h.lo, h.f⟩
/-- Both tables, between the two Adds. -/
structure Half (w wr : World) (t t2 : Nat) (K : List TyK) (c : TyK) (L1 L2 : List TyV) (g cap g2 cap2 : Nat) : Prop where
  b : Bl w wr
  p : TabK wr t g cap [t, g, t2, g2] L1 (K ++ [c])
  d : DTabK wr t2 g2 cap2 [t, g, t2, g2] L2 K
  ne : t ≠ t2 ∧ t ≠ g2 ∧ g ≠ t2 ∧ g ≠ g2
  lo : w.heap.size ≤ t ∧ w.heap.size ≤ g ∧ w.heap.size ≤ t2 ∧ w.heap.size ≤ g2
  f : ∀ c ∈ K, flatK c
theorem two_p {w w1 w2 : World} {t t2 : Nat} {K : List TyK} {L L2 : List TyV} {g cap g2 cap2 : Nat} {x : TyV} {c : TyK} (h : Two w w1 t t2 K L L2 g cap g2 cap2) (hA : AddP w1 t g [t, g, t2, g2] L K c w2) (hxM : HasM w1 [t, g, t2, g2] x c) :
    ∃ y g' cap', Half w w2 t t2 K c (L ++ [y]) L2 g' cap' g2 cap2 ∧ HasM w2 [t, g', t2, g2] x c ∧ Fx [t, g] w1 w2 := by
  obtain ⟨F1, y, g', cap', hg, hgl, hT⟩ := hA
  have hgd : g' ≠ t ∧ g' ≠ t2 ∧ g' ≠ g2 := by
    have := h.p.tab.ne
    have := h.ne
    have := h.p.lt t (by simp)
    have := h.p.lt t2 (by simp)
    have := h.p.lt g2 (by simp)
    rcases hg with hg | hg <;> omega
  have T2 := hT [t, g', t2, g2] (by simp) (by simp) (fun j hj => by
    simp only [List.mem_cons, List.not_mem_nil, or_false] at hj ⊢
    rcases hj with h | h | h | h
    · exact .inl (.inl h)
    · exact .inr h
    · exact .inl (.inr (.inr (.inl h)))
    · exact .inl (.inr (.inr (.inr h))))
  have D2 : DTabK w2 t2 g2 cap2 [t, g', t2, g2] L2 K := h.d.keep F1 (fun j hj => by
    have := h.ne
    simp only [List.mem_cons, List.not_mem_nil, or_false] at hj ⊢
    rcases hj with rfl | rfl
    · exact ⟨.inl rfl, this.1, this.2.1⟩
    · exact ⟨.inr (.inl rfl), this.2.2.1, this.2.2.2⟩) (fun j hj => by
    simp only [List.mem_cons, List.not_mem_nil, or_false] at hj ⊢
    rcases hj with h | h | h | h
    · exact .inl (.inl h)
    · rcases hg with h2 | h2
      · exact .inl (.inr (.inl (by rw [h, h2])))
      · right; rw [h]; exact h2
    · exact .inl (.inr (.inr (.inl h)))
    · exact .inl (.inr (.inr (.inr h)))) (by simp) (by simp) T2.lt
  have hlo : ∀ j ∈ [t, g', t2, g2], j ∈ [t, g, t2, g2] ∨ w1.heap.size ≤ j := fun j hj => by
    simp only [List.mem_cons, List.not_mem_nil, or_false] at hj ⊢
    rcases hj with h | h | h | h
    · exact .inl (.inl h)
    · rcases hg with h2 | h2
      · exact .inl (.inr (.inl (by rw [h, h2])))
      · right; rw [h]; exact h2
    · exact .inl (.inr (.inr (.inl h)))
    · exact .inl (.inr (.inr (.inr h)))
  have s1 := h.b.size
  refine ⟨y, g', cap', ⟨h.b.trans (F1.low (by omega) ?_), T2, D2, ⟨h.ne.1, h.ne.2.1, hgd.2.1, hgd.2.2⟩, ⟨h.lo.1, ?_, h.lo.2.2.1, h.lo.2.2.2⟩, h.f⟩, ?_, F1⟩
  · intro j hj
    have := h.lo
    simp only [List.mem_cons, List.not_mem_nil, or_false] at hj
    rcases hj with rfl | rfl <;> omega
  · have := h.lo
    rcases hg with hg | hg <;> omega
  · refine hxM.next ⟨F1.os, F1.tape, F1.output, F1.size, fun k hk hm => F1.block k hk (fun hj => hm ?_)⟩ hlo
    simp only [List.mem_cons, List.not_mem_nil, or_false] at hj ⊢
    rcases hj with h | h
    · exact .inl h
    · exact .inr (.inl h)
theorem two_d {w w2 w3 : World} {t t2 : Nat} {K : List TyK} {L1 L2 : List TyV} {g' cap' g2 cap2 : Nat} {x : TyV} {c : TyK} (h : Half w w2 t t2 K c L1 L2 g' cap' g2 cap2) (hc : flatK c) (hD : DAddP w2 t2 g2 [t, g', t2, g2] L2 K x c w3) :
    ∃ g3 cap3, Two w w3 t t2 (K ++ [c]) L1 (L2 ++ [x]) g' cap' g3 cap3 := by
  obtain ⟨F2, g3, cap3, hg3, hgl3, hT3⟩ := hD
  have T2 := h.p
  have hgd := h.ne
  have hgd3 : g3 ≠ t ∧ g3 ≠ g' := by
    have := h.ne
    have := T2.lt t (by simp)
    have := T2.lt g' (by simp)
    rcases hg3 with hg3 | hg3 <;> omega
  have D3 := hT3 [t, g', t2, g3] (by simp) (by simp) (fun j hj => by
    simp only [List.mem_cons, List.not_mem_nil, or_false] at hj ⊢
    rcases hj with h | h | h | h
    · exact .inl (.inl h)
    · exact .inl (.inr (.inl h))
    · exact .inl (.inr (.inr (.inl h)))
    · exact .inr h)
  have T3 : TabK w3 t g' cap' [t, g', t2, g3] L1 (K ++ [c]) := T2.keep F2 (fun j hj => by
    have := h.ne
    simp only [List.mem_cons, List.not_mem_nil, or_false] at hj ⊢
    rcases hj with rfl | rfl
    · exact ⟨.inr (.inr (.inl rfl)), Ne.symm this.1, Ne.symm hgd.2.2.1⟩
    · exact ⟨.inr (.inr (.inr rfl)), Ne.symm this.2.1, Ne.symm hgd.2.2.2⟩) (fun j hj => by
    simp only [List.mem_cons, List.not_mem_nil, or_false] at hj ⊢
    rcases hj with h | h | h | h
    · exact .inl (.inl h)
    · exact .inl (.inr (.inl h))
    · exact .inl (.inr (.inr (.inl h)))
    · rcases hg3 with h2 | h2
      · exact .inl (.inr (.inr (.inr (by rw [h, h2]))))
      · right; rw [h]; exact h2) (by simp) (by simp) D3.lt
  have s1 := h.b.size
  refine ⟨g3, cap3, h.b.trans (F2.low (by omega) ?_), T3, D3, ⟨h.ne.1, Ne.symm hgd3.1, h.ne.2.2.1, Ne.symm hgd3.2⟩, ⟨h.lo.1, h.lo.2.1, h.lo.2.2.1, ?_⟩, fun d hd => ?_⟩
  · intro j hj
    have := h.lo
    simp only [List.mem_cons, List.not_mem_nil, or_false] at hj
    rcases hj with rfl | rfl <;> omega
  · have := h.lo
    rcases hg3 with hg3 | hg3 <;> omega
  · rcases List.mem_append.1 hd with hd | hd
    · exact h.f d hd
    · obtain rfl := List.mem_singleton.1 hd
      exact hc
end Go.Proofs.Ytepfknfadpkigaa
