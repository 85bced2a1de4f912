/- The statement on blanks between tokens: plain facts. -/
import Derived.Test.YtkeomcdcjfgacaaDoorLzP
import Derived.Test.YtkeomcdcjfgacaaDoorLyQ
import Derived.Test.YtkeomcdcjfgacaaDoorLyW
import Derived.Test.YtkeomcdcjfgacaaDoorLyU
namespace Go.Proofs.YtkeomcdcjfgacaaDoor
open Go.RowKit
set_option maxHeartbeats 4000000
set_option maxRecDepth 100000
set_option linter.unusedVariables false

/-- Bytes of a slice that came in. -/
def BytesIn (w : World) (p : Option Addr) (l : List Int) : Prop := ∀ j, j < l.length → ∃ a, p = some a ∧ a.block < w.heap.size ∧ w.cell? (a.add j) = some (.int .u8 (l.getD j 0)) ∧ 0 ≤ l.getD j 0 ∧ l.getD j 0 ≤ 255
theorem add_block (a : Addr) (i : Nat) : (a.add i).block = a.block := by unfold Addr.add; split <;> rfl
theorem BytesIn.below {w w' : World} {p : Option Addr} {l : List Int} (h : BytesIn w p l) (hb : Below w.heap.size w w') : BytesIn w' p l := fun j hj => by
  obtain ⟨a, ha, hk, hc, h0, h1⟩ := h j hj
  exact ⟨a, ha, Nat.lt_of_lt_of_le hk hb.size, (hb.cell (by rw [add_block]; exact hk)).trans hc, h0, h1⟩
/-- What the statement puts behind token number j. -/
def spN (l : List Int) (j : Nat) : Nat := if j < l.length then (l.getD j 0).toNat % 6 else 0
def spL (l : List Int) (j : Nat) : List UInt8 := sepsL.getD (spN l j) [32]
theorem spN_lt (l : List Int) (j : Nat) : spN l j < 6 := by unfold spN; split <;> omega
theorem spL_in (l : List Int) (j : Nat) : spL l j ∈ sepsL ∧ (spL l j).length ≤ 19 := by
  unfold spL
  have := spN_lt l j
  have h : spN l j = 0 ∨ spN l j = 1 ∨ spN l j = 2 ∨ spN l j = 3 ∨ spN l j = 4 ∨ spN l j = 5 := by omega
  rcases h with h | h | h | h | h | h <;> (rw [h]; unfold sepsL; exact ⟨by simp, by simp⟩)
/-- The tokens ahead of number k, each with what is put behind it. -/
def accT (l : List T0) (sp : Nat → List UInt8) : Nat → List (T0 × List UInt8)
  | 0 => []
  | k + 1 => accT l sp k ++ match l[k]? with | some t => [(t, sp k)] | none => []
theorem acc_map (l : List T0) (sp : Nat → List UInt8) : ∀ k, (accT l sp k).map (·.1) = l.take k
  | 0 => rfl
  | k + 1 => by
    rw [List.take_add_one, accT, List.map_append, acc_map l sp k]
    cases l[k]? <;> rfl
theorem acc_in (l : List T0) (sp : Nat → List UInt8) : ∀ k, ∀ x ∈ accT l sp k, x.1 ∈ l ∧ ∃ j, x.2 = sp j
  | 0, x, hx => by simp [accT] at hx
  | k + 1, x, hx => by
    rw [accT] at hx
    rcases List.mem_append.1 hx with h | h
    · exact acc_in l sp k x h
    · cases hk : l[k]? with
      | none => rw [hk] at h; simp at h
      | some t =>
        rw [hk] at h
        obtain rfl := List.mem_singleton.1 h
        exact ⟨List.mem_of_getElem? hk, k, rfl⟩
theorem blT_snoc : ∀ (l : List (T0 × List UInt8)) (x : T0 × List UInt8), blT (l ++ [x]) = blT l ++ txtT x.1 ++ x.2
  | [], x => by simp [blT]
  | y :: r, x => by rw [List.cons_append, blT, blT, blT_snoc r x]; simp
theorem acc_next (l : List T0) (sp : Nat → List UInt8) (k : Nat) (t : T0) (h : l[k]? = some t) : blT (accT l sp (k + 1)) = blT (accT l sp k) ++ txtT t ++ sp k := by
  rw [accT, h]; exact blT_snoc _ _
theorem acc_stay (l : List T0) (sp : Nat → List UInt8) (k : Nat) (h : l[k]? = none) : accT l sp (k + 1) = accT l sp k := by
  rw [accT, h]; simp
theorem acc_len (l : List T0) (sp : Nat → List UInt8) (hsp : ∀ j, (sp j).length ≤ 19) (hl : ∀ t ∈ l, (txtT t).length ≤ 6144) : ∀ k, (blT (accT l sp k)).length ≤ k * 6163
  | 0 => by simp [accT, blT]
  | k + 1 => by
    have ih := acc_len l sp hsp hl k
    cases hk : l[k]? with
    | none => rw [acc_stay l sp k hk, Nat.add_mul]; omega
    | some t =>
      have h1 := hl t (List.mem_of_getElem? hk)
      have h2 := hsp k
      rw [acc_next l sp k t hk, List.length_append, List.length_append, Nat.add_mul]
      omega
theorem alike_same (a b : List TK) (h : a.map (fun x : TK => x.1) = b.map (fun x : TK => x.1)) : alikeL a b = true := by
  have hl : a.length = b.length := by have := congrArg List.length h; simpa using this
  refine alike_all a b hl fun i x y hx hy => ?_
  have := congrArg (fun l => l[i]?) h
  simp only [List.getElem?_map, hx, hy, Option.map_some] at this
  have e : x.1 = y.1 := Option.some.inj this
  unfold tokEq
  rw [e]; simp
theorem all_map (S : List UInt8) : (allT S).map (fun x : TK => x.1) = (scanS 0 S).1.map (·.1) ++ [⟨0, [], 0⟩] := by
  unfold allT
  rw [List.map_append, List.map_map]; rfl
theorem blank_cells (w : World) (T : TypeId) (B : Nat) (hB : B = w.heap.size) (q : Nat) (hq : q < 6) :
    (w.alloc (.cells #[.string ⟨#[32]⟩, .string ⟨#[10]⟩, .string ⟨#[9, 13]⟩, .string ⟨#[40, 42, 42, 41]⟩, .string ⟨#[40, 42, 32, 97, 32, 40, 42, 32, 98, 32, 42, 41, 32, 10, 32, 99, 32, 42, 41]⟩, .string ⟨#[32, 40, 42, 39, 42, 41, 32]⟩] T)).cell? ⟨B, q, none⟩ = some (.string ⟨(sepsL.getD q [32]).toArray⟩) := by
  subst hB
  rw [World.cell?_alloc_at _ _ _ _ rfl]
  have h : q = 0 ∨ q = 1 ∨ q = 2 ∨ q = 3 ∨ q = 4 ∨ q = 5 := by omega
  rcases h with rfl | rfl | rfl | rfl | rfl | rfl <;> rfl
end Go.Proofs.YtkeomcdcjfgacaaDoor
