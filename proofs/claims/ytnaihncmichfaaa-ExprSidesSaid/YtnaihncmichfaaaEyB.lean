/- Law 6: the document's examples. -/
import Derived.Test.YtnaihncmichfaaaEyA
namespace Go.Proofs.Ytnaihncmichfaaa
open Go.RowKit
set_option maxHeartbeats 2000000
set_option maxRecDepth 100000
set_option linter.unusedVariables false
set_option linter.unusedSimpArgs false

/-- A tree's first node, and the next place. -/
def rootOf : Re → Option (Nat × List UInt8 × Nat)
  | .ok (.node d _) j => some (d.k, d.x, j)
  | _ => none
theorem Says.root {B : Nat} {W0 : World} {res : Re} {e : Ending} {w' : World} (h : Says B W0 res e w') {k : Nat} {x : List UInt8} {j : Nat} (hr : rootOf res = some (k, x, j)) :
    ∃ p d v, e = .returned (.tuple #[ptrV p, .int .i64 j, .int .i64 0]) ∧ Below B W0 w' ∧ w'.heap[p]? = some (nodeO d v) ∧ d.k = k ∧ d.x = x := by
  obtain ⟨hb, ⟨d, i, u, rfl, rfl, hu, hd⟩ | ⟨i, rfl, rfl⟩⟩ := h
  · cases u with
    | node p nd ks =>
      subst hd
      obtain ⟨_, ⟨v, hv, _⟩, _⟩ := hu
      simp only [rootOf, Tr.dt, Option.some.injEq, Prod.mk.injEq] at hr
      obtain ⟨rfl, rfl, rfl⟩ := hr
      exact ⟨p, nd, v, rfl, hb, hv, rfl, rfl⟩
  · simp [rootOf] at hr
theorem Says.err {B : Nat} {W0 : World} {res : Re} {e : Ending} {w' : World} (h : Says B W0 res e w') {j : Nat} (hr : res = .bad j) :
    e = .returned (.tuple #[.pointer none, .int .i64 j, .int .i64 60]) ∧ Below B W0 w' := by
  subst hr
  obtain ⟨hb, ⟨d, i, u, h1, _⟩ | ⟨i, h1, rfl⟩⟩ := h
  · cases h1
  · cases h1
    exact ⟨rfl, hb⟩
def srcE : ByteArray := ⟨#[97, 32, 45, 32, 98, 32, 42, 32, 99]⟩
def srcF : ByteArray := ⟨#[112, 94, 46, 120, 91, 105, 44, 32, 50, 93, 32, 58, 61, 32, 49]⟩
def srcG : ByteArray := ⟨#[40, 97]⟩
theorem exE : rootOf (exprM (rowT srcE.data.toList) ((rowT srcE.data.toList).length + 2) 0) = some (11, [45], 5) := by kernel_rfl
theorem exF : rootOf (desM (rowT srcF.data.toList) (exprM (rowT srcF.data.toList) ((rowT srcF.data.toList).length + 2)) 0) = some (3, [], 9) := by kernel_rfl
theorem exG : exprM (rowT srcG.data.toList) ((rowT srcG.data.toList).length + 2) 0 = .bad 2 := by kernel_rfl
theorem row_at (s : ByteArray) (hs : s.size ≤ 16384) : (rowT s.data.toList).length ≤ 16384 ∧ ∀ x ∈ rowT s.data.toList, x.1.x.length ≤ 65536 := by
  have hlen : s.data.toList.length = s.size := by rw [Array.length_toList]; rfl
  exact ⟨Nat.le_trans (row_len _) (by omega), row_txt _ (by omega)⟩
theorem rworks_any (w : World) :
    Calls Try.prog 9 #[] w fun e w' => e = .returned (.bool true) ∧ Below w.heap.size w w' := by
  have R1 := fun w => Row_any srcE (by decide) w
  have R2 := fun w => Row_any srcF (by decide) w
  have R3 := fun w => Row_any srcG (by decide) w
  have E1 := fun v w h => Expr_any (rowT srcE.data.toList) v 0 w h (by omega) (row_at srcE (by decide)).1 (row_at srcE (by decide)).2
  have E2 := fun v w h => Designator_any (rowT srcF.data.toList) v 0 w h (by omega) (row_at srcF (by decide)).1 (row_at srcF (by decide)).2
  have E3 := fun v w h => Expr_any (rowT srcG.data.toList) v 0 w h (by omega) (row_at srcG (by decide)).1 (row_at srcG (by decide)).2
  have G1 := Lib.hid exE
  have G2 := Lib.hid exF
  have G3 := Lib.hid exG
  have RH1 := Lib.hid R1
  have RH2 := Lib.hid R2
  have RH3 := Lib.hid R3
  have EH1 := Lib.hid E1
  have EH2 := Lib.hid E2
  have EH3 := Lib.hid E3
  clear R1 R2 R3 E1 E2 E3
  go_enter Try.func9, Try.ntmps9
  go_wp2_with fail
  refine (RH1.out _).mono ?_
  rintro e w1 ⟨v1, rfl, B1, r1, _⟩
  have C1 := Lib.hid (EH1.out v1 w1 r1)
  clear r1
  go_wp2_with fail
  refine C1.out.mono ?_
  rintro e w2 h2
  obtain ⟨p1, d1, a1, rfl, B2, n1, k1, x1⟩ := h2.root G1.out
  have B12 := Lib.hid (bt B1 B2)
  clear B1 B2 C1 h2
  obtain ⟨q1, hq1⟩ : ∃ q, ptrV p1 = q := ⟨_, rfl⟩
  rw [hq1]
  go_wp2_with fail
  refine (RH2.out _).mono ?_
  rintro e w3 ⟨v3, rfl, B3, r3, _⟩
  have C3 := Lib.hid (EH2.out v3 w3 r3)
  clear r3
  go_wp2_with fail
  refine C3.out.mono ?_
  rintro e w4 h4
  obtain ⟨p2, d2, a2, rfl, B4, n2, k2, x2⟩ := h4.root G2.out
  have B34 := bt B3 B4
  have n1' := (B34.block p1 (lt_heap n1)).trans n1
  have B14 := Lib.hid (bt B12.out B34)
  clear B3 B4 C3 h4 B12 n1 B34
  obtain ⟨q2, hq2⟩ : ∃ q, ptrV p2 = q := ⟨_, rfl⟩
  rw [hq2]
  go_wp2_with fail
  refine (RH3.out _).mono ?_
  rintro e w5 ⟨v5, rfl, B5, r5, _⟩
  have C5 := Lib.hid (EH3.out v5 w5 r5)
  clear r5
  go_wp2_with fail
  refine C5.out.mono ?_
  rintro e w6 h6
  obtain ⟨rfl, B6⟩ := h6.err G3.out
  have B56 := bt B5 B6
  have n1 := (B56.block p1 (lt_heap n1')).trans n1'
  have n2' := (B56.block p2 (lt_heap n2)).trans n2
  have B16 := Lib.hid (bt B14.out B56)
  have c1 : w6.cell? ⟨p1, 0, none⟩ = some (.int .u8 11) := by rw [Lib.cell_of_heap n1]; show some (Value.int .u8 (d1.k : Int)) = _; rw [k1]; rfl
  have c2 : w6.cell? ⟨p1, 2, none⟩ = some (.string ⟨#[45]⟩) := by rw [Lib.cell_of_heap n1]; show some (Value.string ⟨d1.x.toArray⟩) = _; rw [x1]
  have c3 : w6.cell? ⟨p2, 0, none⟩ = some (.int .u8 3) := by rw [Lib.cell_of_heap n2']; show some (Value.int .u8 (d2.k : Int)) = _; rw [k2]; rfl
  clear B5 B6 C5 h6 B14 n1 B56 n1' n2 n2'
  subst hq1 hq2
  simp only [ptrV]
  go_wp2_with fail
  go_ret
  exact ⟨rfl, B16.out⟩
end Go.Proofs.Ytnaihncmichfaaa
