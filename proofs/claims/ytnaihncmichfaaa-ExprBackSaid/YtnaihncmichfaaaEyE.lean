/- Law 6: two operators between three names: what they are read as. -/
import Derived.Test.YtnaihncmichfaaaMeH
namespace Go.Proofs.Ytnaihncmichfaaa
open Go.RowKit
set_option maxHeartbeats 2000000
set_option maxRecDepth 100000
set_option linter.unusedVariables false
set_option linter.unusedSimpArgs false

def opsL : List (List UInt8) := [[42], [47], [68, 73, 86], [77, 79, 68], [65, 78, 68], [43], [45], [79, 82], [61], [35], [60], [60, 61], [62], [62, 61], [73, 78]]
def opB (p : Nat) : List UInt8 := opsL.getD p []
def lvO (p : Nat) : Nat := if p < 5 then 2 else if p < 8 then 1 else 0
def srcO (p q : Nat) : List UInt8 := [117, 32] ++ opB p ++ [32, 118, 32] ++ opB q ++ [32, 119]
def kdD : DT → Nat | .node d _ => d.k
/-- A tree's first node, its kids' kinds, and the next place. -/
def shapeOf : Re → Option (Nat × List UInt8 × List Nat × Nat)
  | .ok (.node d ks) j => some (d.k, d.x, ks.map kdD, j)
  | _ => none
def sideB (p q : Nat) : Option (Nat × List UInt8 × List Nat × Nat) :=
  if lvO p = 0 ∧ lvO q = 0 then some (11, opB p, [1, 1], 3)
  else if lvO q ≤ lvO p then some (11, opB q, [11, 1], 5) else some (11, opB p, [1, 11], 5)
def shapeR (l : List TK) : Option (Nat × List UInt8 × List Nat × Nat) := shapeOf (exprM l (l.length + 2) 0)
theorem sides_all : ∀ p : Fin 15, ∀ q : Fin 15, shapeR (rowT (srcO p q)) = sideB p q := by decide +kernel
theorem ops_ne : ∀ p : Fin 15, ∀ q : Fin 15, (opB p = opB q) = (p = q) := by
  have h : ∀ p : Fin 15, ∀ q : Fin 15, opB p = opB q → p = q := by decide +kernel
  intro p q
  exact propext ⟨h p q, fun e => by rw [e]⟩
theorem Says.shape {B : Nat} {W0 : World} {res : Re} {e : Ending} {w' : World} (h : Says B W0 res e w') {k : Nat} {x : List UInt8} {k1 k2 : Nat} {j : Nat} (hr : shapeOf res = some (k, x, [k1, k2], j)) :
    ∃ p p1 p2 g cap d d1 d2 v1 v2, e = .returned (.tuple #[ptrV p, .int .i64 j, .int .i64 0]) ∧ Below B W0 w' ∧ w'.heap[p]? = some (nodeO d (.slice (some ⟨g, 0, none⟩) 2 cap)) ∧ d.k = k ∧ d.x = x ∧
      w'.cell? ⟨g, 0, none⟩ = some (ptrV p1) ∧ w'.cell? ⟨g, 1, none⟩ = some (ptrV p2) ∧ w'.heap[p1]? = some (nodeO d1 v1) ∧ d1.k = k1 ∧ w'.heap[p2]? = some (nodeO d2 v2) ∧ d2.k = k2 := by
  obtain ⟨hb, ⟨d, i, u, rfl, rfl, hu, hd⟩ | ⟨i, rfl, rfl⟩⟩ := h
  · cases u with
    | node p nd ks =>
      subst hd
      obtain ⟨_, ⟨v, hv, hrow⟩, hks⟩ := hu
      simp only [shapeOf, Tr.dt, Option.some.injEq, Prod.mk.injEq] at hr
      obtain ⟨rfl, rfl, hk, rfl⟩ := hr
      match ks, hk, hrow, hks with
      | [.node p1 d1 l1, .node p2 d2 l2], hk, hrow, hks =>
        simp only [dtL, Tr.dt, List.map_cons, List.map_nil, kdD, List.cons.injEq, and_true] at hk
        obtain ⟨rfl, rfl⟩ := hk
        obtain ⟨⟨_, ⟨v1, h1, _⟩, _⟩, ⟨_, ⟨v2, h2, _⟩, _⟩, _⟩ := hks
        obtain ⟨g, cap, e1, c1⟩ := hrow.cell 0 p1 rfl
        obtain ⟨g', cap', e2, c2⟩ := hrow.cell 1 p2 rfl
        rw [e1] at e2
        injection e2 with e3 e4 e5
        injection e3 with e3
        injection e3 with e3
        subst e3 e5
        subst e1
        exact ⟨p, p1, p2, g, cap, nd, d1, d2, v1, v2, rfl, hb, hv, rfl, rfl, c1, c2, h1, rfl, h2, rfl⟩
  · simp [shapeOf] at hr
theorem opL_cell (w : World) (p : Nat) (h : p < 15) : (w.alloc (.cells (opsL.map fun x => Value.string ⟨x.toArray⟩).toArray 9)).cell? ⟨w.heap.size, p, none⟩ = some (.string ⟨(opB p).toArray⟩) := by
  have hl : p < opsL.length := h
  rw [World.cell?_alloc_at _ _ _ _ rfl]
  simp [List.getElem?_map, List.getElem?_eq_getElem hl, opB, List.getD]
theorem level_any (p : Nat) (h : p < 15) (w : World) :
    Calls Try.prog 17 #[.int .i64 p] w fun e w' => e = .returned (.int .i64 (lvO p)) ∧ w' = w := by
  by_cases h1 : p < 5
  · have t1 : (p : Int) < 5 := by omega
    have HL := Lib.hid (show lvO p = 2 by unfold lvO; rw [if_pos h1])
    go_enter Try.func17, Try.ntmps17
    go_wp2_with fail
    go_ret
    rw [HL.out]
    exact ⟨rfl, rfl⟩
  · have t1 : ¬ (p : Int) < 5 := by omega
    by_cases h2 : p < 8
    · have t2 : (p : Int) < 8 := by omega
      have HL := Lib.hid (show lvO p = 1 by unfold lvO; rw [if_neg h1, if_pos h2])
      go_enter Try.func17, Try.ntmps17
      go_wp2_with fail
      go_ret
      rw [HL.out]
      exact ⟨rfl, rfl⟩
    · have t2 : ¬ (p : Int) < 8 := by omega
      have HL := Lib.hid (show lvO p = 0 by unfold lvO; rw [if_neg h1, if_neg h2])
      go_enter Try.func17, Try.ntmps17
      go_wp2_with fail
      go_ret
      rw [HL.out]
      exact ⟨rfl, rfl⟩
end Go.Proofs.Ytnaihncmichfaaa
