/- The maps of closures of package word: which function stands at which op. -/
import Derived.Test.YtcecjjjehhjldaaProg
import Derived.Test.YtcecjjjehhjldaaWdM
import Derived.WalkKit
import Derived.KernelRfl
import Derived.Maps.OwnOps
import Derived.Maps.Views
import Derived.Lib.Hide
namespace Go.Proofs.Ytcecjjjehhjldaa
open Go.RowKit Go.Maps Go.WideMaps
set_option maxHeartbeats 400000
set_option linter.unusedVariables false

theorem lawK : Keyed Try.prog 5 := int_keyed Try.underlying5
theorem zeroFn (w : World) : (zeroValue 43).run Try.prog w = .ok .nilFunc w := by kernel_rfl
theorem keyU8 (n : Int) (h0 : 0 ≤ n) (h1 : n ≤ 255) : keyOf Try.prog 5 (.int .u8 n) = some (.int .u8 n) := keyOf_int_mk Try.underlying5 (by simp [Lit.wf, IntKind.min, IntKind.max, IntKind.signed, IntKind.bits]; omega)

/-- It returned a function value that reads as d; no block that was there has turned. -/
def Looked {H : Type} (d : DataW H) (w : World) (e : Ending) (w' : World) : Prop := ∃ v ps, e = .returned v ∧ fnElem (H := H) v = some (d, ps) ∧ Below w.heap.size w w'

/-- Which function stands at an op. -/
def fnNum (op : Int) : Nat :=
  if op = 1 then 33
  else if op = 2 then 36
  else if op = 3 then 37
  else if op = 4 then 38
  else if op = 5 then 40
  else if op = 6 then 42
  else if op = 7 then 43
  else if op = 8 then 44
  else if op = 9 then 47
  else if op = 10 then 48
  else if op = 11 then 49
  else if op = 12 then 51
  else if op = 13 then 53
  else if op = 14 then 55
  else if op = 15 then 56
  else if op = 16 then 58
  else if op = 17 then 59
  else if op = 18 then 60
  else if op = 19 then 61
  else if op = 20 then 63
  else if op = 21 then 64
  else if op = 22 then 65
  else if op = 23 then 66
  else if op = 24 then 67
  else if op = 25 then 68
  else if op = 26 then 69
  else if op = 27 then 70
  else if op = 28 then 71
  else if op = 29 then 72
  else if op = 30 then 73
  else if op = 31 then 75
  else 0

def mapI {H : Type} : DataW H := ((((((((DataW.map []).put (.int .u8 1) (.lit (.int .i64 (33 : Nat)))).put (.int .u8 2) (.lit (.int .i64 (36 : Nat)))).put (.int .u8 3) (.lit (.int .i64 (37 : Nat)))).put (.int .u8 4) (.lit (.int .i64 (38 : Nat)))).put (.int .u8 5) (.lit (.int .i64 (40 : Nat)))).put (.int .u8 6) (.lit (.int .i64 (42 : Nat)))).put (.int .u8 7) (.lit (.int .i64 (43 : Nat))))
theorem mapI_at (op : Int) (h1 : 1 ≤ op) (h2 : op ≤ 7) : (mapI (H := Nat)).atKey (.int .u8 op) (.lit (.int .i64 (-1))) = .lit (.int .i64 (fnNum op : Nat)) := by
  have : op = 1 ∨ op = 2 ∨ op = 3 ∨ op = 4 ∨ op = 5 ∨ op = 6 ∨ op = 7 := by omega
  rcases this with rfl | rfl | rfl | rfl | rfl | rfl | rfl <;> (apply Eq.symm; kernel_rfl)
theorem integers_walk (op : Int) (h0 : 0 ≤ op) (h1 : op ≤ 255) (w : World) :
    Calls Try.prog 28 #[.int .u8 op] w (Looked (H := Nat) (mapI.atKey (.int .u8 op) (.lit (.int .i64 (-1)))) w) := by
  have hmm := @run_makeMap Try.prog
  have k1 := keyU8 1 (by omega) (by omega)
  have k2 := keyU8 2 (by omega) (by omega)
  have k3 := keyU8 3 (by omega) (by omega)
  have k4 := keyU8 4 (by omega) (by omega)
  have k5 := keyU8 5 (by omega) (by omega)
  have k6 := keyU8 6 (by omega) (by omega)
  have k7 := keyU8 7 (by omega) (by omega)
  have kop := keyU8 op (by omega) (by omega)
  have own0 := World.ownsMap_made (H := Nat) w Try.prog 5 fnElem
  have b0 : Below w.heap.size w (w.alloc (.map #[] 0)) := (Below.refl _ _).alloc (Nat.le_refl _) _
  go_enter Try.func28, Try.ntmps28
  go_wp2_with (refine wpList_insert_fn _ rfl _ _ _ 48 rfl 5 43 lawK Try.underlying48 _ _ _ rfl own0 (by unfold maxLen; omega) _ _ _ rfl rfl k1 ?_)
  intro w1 own1 g1
  have b1 := b0.grown g1 b0.size (fun j hj => by cases hj; exact Nat.le_refl _)
  clear own0 g1 b0
  go_wp2_with (refine wpList_insert_fn _ rfl _ _ _ 48 rfl 5 43 lawK Try.underlying48 _ _ _ rfl own1 (by unfold maxLen; omega) _ _ _ rfl rfl k2 ?_)
  intro w2 own2 g2
  have b2 := b1.grown g2 b1.size (fun j hj => by cases hj; exact Nat.le_refl _)
  clear own1 g2 b1
  go_wp2_with (refine wpList_insert_fn _ rfl _ _ _ 48 rfl 5 43 lawK Try.underlying48 _ _ _ rfl own2 (by unfold maxLen; omega) _ _ _ rfl rfl k3 ?_)
  intro w3 own3 g3
  have b3 := b2.grown g3 b2.size (fun j hj => by cases hj; exact Nat.le_refl _)
  clear own2 g3 b2
  go_wp2_with (refine wpList_insert_fn _ rfl _ _ _ 48 rfl 5 43 lawK Try.underlying48 _ _ _ rfl own3 (by unfold maxLen; omega) _ _ _ rfl rfl k4 ?_)
  intro w4 own4 g4
  have b4 := b3.grown g4 b3.size (fun j hj => by cases hj; exact Nat.le_refl _)
  clear own3 g4 b3
  go_wp2_with (refine wpList_insert_fn _ rfl _ _ _ 48 rfl 5 43 lawK Try.underlying48 _ _ _ rfl own4 (by unfold maxLen; omega) _ _ _ rfl rfl k5 ?_)
  intro w5 own5 g5
  have b5 := b4.grown g5 b4.size (fun j hj => by cases hj; exact Nat.le_refl _)
  clear own4 g5 b4
  go_wp2_with (refine wpList_insert_fn _ rfl _ _ _ 48 rfl 5 43 lawK Try.underlying48 _ _ _ rfl own5 (by unfold maxLen; omega) _ _ _ rfl rfl k6 ?_)
  intro w6 own6 g6
  have b6 := b5.grown g6 b5.size (fun j hj => by cases hj; exact Nat.le_refl _)
  clear own5 g6 b5
  go_wp2_with (refine wpList_insert_fn _ rfl _ _ _ 48 rfl 5 43 lawK Try.underlying48 _ _ _ rfl own6 (by unfold maxLen; omega) _ _ _ rfl rfl k7 ?_)
  intro w7 own7 g7
  have b7 := b6.grown g7 b6.size (fun j hj => by cases hj; exact Nat.le_refl _)
  clear own6 g7 b6
  go_wp2_with (refine wpList_lookup_fn _ rfl _ _ 48 rfl 5 43 lawK Try.underlying48 (zeroFn _) _ _ _ rfl own7 _ _ rfl kop ?_)
  intro v ps hv
  have HV := Lib.hid hv
  clear hv own7
  go_wp2
  go_ret
  exact ⟨v, ps, rfl, HV.out, b7⟩

theorem integers_any (op : Int) (h0 : 1 ≤ op) (h1 : op ≤ 7) (w : World) :
    Calls Try.prog 28 #[.int .u8 op] w fun e w' => e = .returned (.func (.func (fnNum op)) #[] #[]) ∧ Below w.heap.size w w' := by
  refine (integers_walk op (by omega) (by omega) w).mono ?_
  rintro e w' ⟨v, ps, rfl, hv, hb⟩
  rw [mapI_at op h0 h1] at hv
  obtain rfl := fnElem_inv hv
  exact ⟨rfl, hb⟩

theorem integers_nil (op : Int) (h0 : op = 0) (w : World) :
    Calls Try.prog 28 #[.int .u8 op] w fun e w' => e = .returned .nilFunc ∧ Below w.heap.size w w' := by
  refine (integers_walk op (by omega) (by omega) w).mono ?_
  rintro e w' ⟨v, ps, rfl, hv, hb⟩
  unfold mapI at hv
  rw [Maps.atKey_put_other (by intro h; simp only [Lit.int.injEq, true_and] at h; omega)] at hv
  rw [Maps.atKey_put_other (by intro h; simp only [Lit.int.injEq, true_and] at h; omega)] at hv
  rw [Maps.atKey_put_other (by intro h; simp only [Lit.int.injEq, true_and] at h; omega)] at hv
  rw [Maps.atKey_put_other (by intro h; simp only [Lit.int.injEq, true_and] at h; omega)] at hv
  rw [Maps.atKey_put_other (by intro h; simp only [Lit.int.injEq, true_and] at h; omega)] at hv
  rw [Maps.atKey_put_other (by intro h; simp only [Lit.int.injEq, true_and] at h; omega)] at hv
  rw [Maps.atKey_put_other (by intro h; simp only [Lit.int.injEq, true_and] at h; omega)] at hv
  obtain rfl := fnElem_nil hv
  exact ⟨rfl, hb⟩

def mapC {H : Type} : DataW H := ((((((DataW.map []).put (.int .u8 8) (.lit (.int .i64 (44 : Nat)))).put (.int .u8 9) (.lit (.int .i64 (47 : Nat)))).put (.int .u8 10) (.lit (.int .i64 (48 : Nat)))).put (.int .u8 11) (.lit (.int .i64 (49 : Nat)))).put (.int .u8 12) (.lit (.int .i64 (51 : Nat))))
theorem mapC_at (op : Int) (h1 : 8 ≤ op) (h2 : op ≤ 12) : (mapC (H := Nat)).atKey (.int .u8 op) (.lit (.int .i64 (-1))) = .lit (.int .i64 (fnNum op : Nat)) := by
  have : op = 8 ∨ op = 9 ∨ op = 10 ∨ op = 11 ∨ op = 12 := by omega
  rcases this with rfl | rfl | rfl | rfl | rfl <;> (apply Eq.symm; kernel_rfl)
theorem cardinals_walk (op : Int) (h0 : 0 ≤ op) (h1 : op ≤ 255) (w : World) :
    Calls Try.prog 29 #[.int .u8 op] w (Looked (H := Nat) (mapC.atKey (.int .u8 op) (.lit (.int .i64 (-1)))) w) := by
  have hmm := @run_makeMap Try.prog
  have k8 := keyU8 8 (by omega) (by omega)
  have k9 := keyU8 9 (by omega) (by omega)
  have k10 := keyU8 10 (by omega) (by omega)
  have k11 := keyU8 11 (by omega) (by omega)
  have k12 := keyU8 12 (by omega) (by omega)
  have kop := keyU8 op (by omega) (by omega)
  have own0 := World.ownsMap_made (H := Nat) w Try.prog 5 fnElem
  have b0 : Below w.heap.size w (w.alloc (.map #[] 0)) := (Below.refl _ _).alloc (Nat.le_refl _) _
  go_enter Try.func29, Try.ntmps29
  go_wp2_with (refine wpList_insert_fn _ rfl _ _ _ 48 rfl 5 43 lawK Try.underlying48 _ _ _ rfl own0 (by unfold maxLen; omega) _ _ _ rfl rfl k8 ?_)
  intro w1 own1 g1
  have b1 := b0.grown g1 b0.size (fun j hj => by cases hj; exact Nat.le_refl _)
  clear own0 g1 b0
  go_wp2_with (refine wpList_insert_fn _ rfl _ _ _ 48 rfl 5 43 lawK Try.underlying48 _ _ _ rfl own1 (by unfold maxLen; omega) _ _ _ rfl rfl k9 ?_)
  intro w2 own2 g2
  have b2 := b1.grown g2 b1.size (fun j hj => by cases hj; exact Nat.le_refl _)
  clear own1 g2 b1
  go_wp2_with (refine wpList_insert_fn _ rfl _ _ _ 48 rfl 5 43 lawK Try.underlying48 _ _ _ rfl own2 (by unfold maxLen; omega) _ _ _ rfl rfl k10 ?_)
  intro w3 own3 g3
  have b3 := b2.grown g3 b2.size (fun j hj => by cases hj; exact Nat.le_refl _)
  clear own2 g3 b2
  go_wp2_with (refine wpList_insert_fn _ rfl _ _ _ 48 rfl 5 43 lawK Try.underlying48 _ _ _ rfl own3 (by unfold maxLen; omega) _ _ _ rfl rfl k11 ?_)
  intro w4 own4 g4
  have b4 := b3.grown g4 b3.size (fun j hj => by cases hj; exact Nat.le_refl _)
  clear own3 g4 b3
  go_wp2_with (refine wpList_insert_fn _ rfl _ _ _ 48 rfl 5 43 lawK Try.underlying48 _ _ _ rfl own4 (by unfold maxLen; omega) _ _ _ rfl rfl k12 ?_)
  intro w5 own5 g5
  have b5 := b4.grown g5 b4.size (fun j hj => by cases hj; exact Nat.le_refl _)
  clear own4 g5 b4
  go_wp2_with (refine wpList_lookup_fn _ rfl _ _ 48 rfl 5 43 lawK Try.underlying48 (zeroFn _) _ _ _ rfl own5 _ _ rfl kop ?_)
  intro v ps hv
  have HV := Lib.hid hv
  clear hv own5
  go_wp2
  go_ret
  exact ⟨v, ps, rfl, HV.out, b5⟩

theorem cardinals_any (op : Int) (h0 : 8 ≤ op) (h1 : op ≤ 12) (w : World) :
    Calls Try.prog 29 #[.int .u8 op] w fun e w' => e = .returned (.func (.func (fnNum op)) #[] #[]) ∧ Below w.heap.size w w' := by
  refine (cardinals_walk op (by omega) (by omega) w).mono ?_
  rintro e w' ⟨v, ps, rfl, hv, hb⟩
  rw [mapC_at op h0 h1] at hv
  obtain rfl := fnElem_inv hv
  exact ⟨rfl, hb⟩

def mapQ {H : Type} : DataW H := (((((((DataW.map []).put (.int .u8 13) (.lit (.int .i64 (53 : Nat)))).put (.int .u8 14) (.lit (.int .i64 (55 : Nat)))).put (.int .u8 15) (.lit (.int .i64 (56 : Nat)))).put (.int .u8 16) (.lit (.int .i64 (58 : Nat)))).put (.int .u8 17) (.lit (.int .i64 (59 : Nat)))).put (.int .u8 18) (.lit (.int .i64 (60 : Nat))))
theorem mapQ_at (op : Int) (h1 : 13 ≤ op) (h2 : op ≤ 18) : (mapQ (H := Nat)).atKey (.int .u8 op) (.lit (.int .i64 (-1))) = .lit (.int .i64 (fnNum op : Nat)) := by
  have : op = 13 ∨ op = 14 ∨ op = 15 ∨ op = 16 ∨ op = 17 ∨ op = 18 := by omega
  rcases this with rfl | rfl | rfl | rfl | rfl | rfl <;> (apply Eq.symm; kernel_rfl)
theorem integerQuestions_walk (op : Int) (h0 : 0 ≤ op) (h1 : op ≤ 255) (w : World) :
    Calls Try.prog 30 #[.int .u8 op] w (Looked (H := Nat) (mapQ.atKey (.int .u8 op) (.lit (.int .i64 (-1)))) w) := by
  have hmm := @run_makeMap Try.prog
  have k13 := keyU8 13 (by omega) (by omega)
  have k14 := keyU8 14 (by omega) (by omega)
  have k15 := keyU8 15 (by omega) (by omega)
  have k16 := keyU8 16 (by omega) (by omega)
  have k17 := keyU8 17 (by omega) (by omega)
  have k18 := keyU8 18 (by omega) (by omega)
  have kop := keyU8 op (by omega) (by omega)
  have own0 := World.ownsMap_made (H := Nat) w Try.prog 5 fnElem
  have b0 : Below w.heap.size w (w.alloc (.map #[] 0)) := (Below.refl _ _).alloc (Nat.le_refl _) _
  go_enter Try.func30, Try.ntmps30
  go_wp2_with (refine wpList_insert_fn _ rfl _ _ _ 48 rfl 5 43 lawK Try.underlying48 _ _ _ rfl own0 (by unfold maxLen; omega) _ _ _ rfl rfl k13 ?_)
  intro w1 own1 g1
  have b1 := b0.grown g1 b0.size (fun j hj => by cases hj; exact Nat.le_refl _)
  clear own0 g1 b0
  go_wp2_with (refine wpList_insert_fn _ rfl _ _ _ 48 rfl 5 43 lawK Try.underlying48 _ _ _ rfl own1 (by unfold maxLen; omega) _ _ _ rfl rfl k14 ?_)
  intro w2 own2 g2
  have b2 := b1.grown g2 b1.size (fun j hj => by cases hj; exact Nat.le_refl _)
  clear own1 g2 b1
  go_wp2_with (refine wpList_insert_fn _ rfl _ _ _ 48 rfl 5 43 lawK Try.underlying48 _ _ _ rfl own2 (by unfold maxLen; omega) _ _ _ rfl rfl k15 ?_)
  intro w3 own3 g3
  have b3 := b2.grown g3 b2.size (fun j hj => by cases hj; exact Nat.le_refl _)
  clear own2 g3 b2
  go_wp2_with (refine wpList_insert_fn _ rfl _ _ _ 48 rfl 5 43 lawK Try.underlying48 _ _ _ rfl own3 (by unfold maxLen; omega) _ _ _ rfl rfl k16 ?_)
  intro w4 own4 g4
  have b4 := b3.grown g4 b3.size (fun j hj => by cases hj; exact Nat.le_refl _)
  clear own3 g4 b3
  go_wp2_with (refine wpList_insert_fn _ rfl _ _ _ 48 rfl 5 43 lawK Try.underlying48 _ _ _ rfl own4 (by unfold maxLen; omega) _ _ _ rfl rfl k17 ?_)
  intro w5 own5 g5
  have b5 := b4.grown g5 b4.size (fun j hj => by cases hj; exact Nat.le_refl _)
  clear own4 g5 b4
  go_wp2_with (refine wpList_insert_fn _ rfl _ _ _ 48 rfl 5 43 lawK Try.underlying48 _ _ _ rfl own5 (by unfold maxLen; omega) _ _ _ rfl rfl k18 ?_)
  intro w6 own6 g6
  have b6 := b5.grown g6 b5.size (fun j hj => by cases hj; exact Nat.le_refl _)
  clear own5 g6 b5
  go_wp2_with (refine wpList_lookup_fn _ rfl _ _ 48 rfl 5 43 lawK Try.underlying48 (zeroFn _) _ _ _ rfl own6 _ _ rfl kop ?_)
  intro v ps hv
  have HV := Lib.hid hv
  clear hv own6
  go_wp2
  go_ret
  exact ⟨v, ps, rfl, HV.out, b6⟩

theorem integerQuestions_any (op : Int) (h0 : 13 ≤ op) (h1 : op ≤ 18) (w : World) :
    Calls Try.prog 30 #[.int .u8 op] w fun e w' => e = .returned (.func (.func (fnNum op)) #[] #[]) ∧ Below w.heap.size w w' := by
  refine (integerQuestions_walk op (by omega) (by omega) w).mono ?_
  rintro e w' ⟨v, ps, rfl, hv, hb⟩
  rw [mapQ_at op h0 h1] at hv
  obtain rfl := fnElem_inv hv
  exact ⟨rfl, hb⟩

def mapU {H : Type} : DataW H := ((((((DataW.map []).put (.int .u8 19) (.lit (.int .i64 (61 : Nat)))).put (.int .u8 20) (.lit (.int .i64 (63 : Nat)))).put (.int .u8 21) (.lit (.int .i64 (64 : Nat)))).put (.int .u8 22) (.lit (.int .i64 (65 : Nat)))).put (.int .u8 23) (.lit (.int .i64 (66 : Nat))))
theorem mapU_at (op : Int) (h1 : 19 ≤ op) (h2 : op ≤ 23) : (mapU (H := Nat)).atKey (.int .u8 op) (.lit (.int .i64 (-1))) = .lit (.int .i64 (fnNum op : Nat)) := by
  have : op = 19 ∨ op = 20 ∨ op = 21 ∨ op = 22 ∨ op = 23 := by omega
  rcases this with rfl | rfl | rfl | rfl | rfl <;> (apply Eq.symm; kernel_rfl)
theorem cardinalQuestions_walk (op : Int) (h0 : 0 ≤ op) (h1 : op ≤ 255) (w : World) :
    Calls Try.prog 31 #[.int .u8 op] w (Looked (H := Nat) (mapU.atKey (.int .u8 op) (.lit (.int .i64 (-1)))) w) := by
  have hmm := @run_makeMap Try.prog
  have k19 := keyU8 19 (by omega) (by omega)
  have k20 := keyU8 20 (by omega) (by omega)
  have k21 := keyU8 21 (by omega) (by omega)
  have k22 := keyU8 22 (by omega) (by omega)
  have k23 := keyU8 23 (by omega) (by omega)
  have kop := keyU8 op (by omega) (by omega)
  have own0 := World.ownsMap_made (H := Nat) w Try.prog 5 fnElem
  have b0 : Below w.heap.size w (w.alloc (.map #[] 0)) := (Below.refl _ _).alloc (Nat.le_refl _) _
  go_enter Try.func31, Try.ntmps31
  go_wp2_with (refine wpList_insert_fn _ rfl _ _ _ 48 rfl 5 43 lawK Try.underlying48 _ _ _ rfl own0 (by unfold maxLen; omega) _ _ _ rfl rfl k19 ?_)
  intro w1 own1 g1
  have b1 := b0.grown g1 b0.size (fun j hj => by cases hj; exact Nat.le_refl _)
  clear own0 g1 b0
  go_wp2_with (refine wpList_insert_fn _ rfl _ _ _ 48 rfl 5 43 lawK Try.underlying48 _ _ _ rfl own1 (by unfold maxLen; omega) _ _ _ rfl rfl k20 ?_)
  intro w2 own2 g2
  have b2 := b1.grown g2 b1.size (fun j hj => by cases hj; exact Nat.le_refl _)
  clear own1 g2 b1
  go_wp2_with (refine wpList_insert_fn _ rfl _ _ _ 48 rfl 5 43 lawK Try.underlying48 _ _ _ rfl own2 (by unfold maxLen; omega) _ _ _ rfl rfl k21 ?_)
  intro w3 own3 g3
  have b3 := b2.grown g3 b2.size (fun j hj => by cases hj; exact Nat.le_refl _)
  clear own2 g3 b2
  go_wp2_with (refine wpList_insert_fn _ rfl _ _ _ 48 rfl 5 43 lawK Try.underlying48 _ _ _ rfl own3 (by unfold maxLen; omega) _ _ _ rfl rfl k22 ?_)
  intro w4 own4 g4
  have b4 := b3.grown g4 b3.size (fun j hj => by cases hj; exact Nat.le_refl _)
  clear own3 g4 b3
  go_wp2_with (refine wpList_insert_fn _ rfl _ _ _ 48 rfl 5 43 lawK Try.underlying48 _ _ _ rfl own4 (by unfold maxLen; omega) _ _ _ rfl rfl k23 ?_)
  intro w5 own5 g5
  have b5 := b4.grown g5 b4.size (fun j hj => by cases hj; exact Nat.le_refl _)
  clear own4 g5 b4
  go_wp2_with (refine wpList_lookup_fn _ rfl _ _ 48 rfl 5 43 lawK Try.underlying48 (zeroFn _) _ _ _ rfl own5 _ _ rfl kop ?_)
  intro v ps hv
  have HV := Lib.hid hv
  clear hv own5
  go_wp2
  go_ret
  exact ⟨v, ps, rfl, HV.out, b5⟩

theorem cardinalQuestions_any (op : Int) (h0 : 19 ≤ op) (h1 : op ≤ 23) (w : World) :
    Calls Try.prog 31 #[.int .u8 op] w fun e w' => e = .returned (.func (.func (fnNum op)) #[] #[]) ∧ Below w.heap.size w w' := by
  refine (cardinalQuestions_walk op (by omega) (by omega) w).mono ?_
  rintro e w' ⟨v, ps, rfl, hv, hb⟩
  rw [mapU_at op h0 h1] at hv
  obtain rfl := fnElem_inv hv
  exact ⟨rfl, hb⟩

def mapS {H : Type} : DataW H := (((((((((DataW.map []).put (.int .u8 24) (.lit (.int .i64 (67 : Nat)))).put (.int .u8 25) (.lit (.int .i64 (68 : Nat)))).put (.int .u8 26) (.lit (.int .i64 (69 : Nat)))).put (.int .u8 27) (.lit (.int .i64 (70 : Nat)))).put (.int .u8 28) (.lit (.int .i64 (71 : Nat)))).put (.int .u8 29) (.lit (.int .i64 (72 : Nat)))).put (.int .u8 30) (.lit (.int .i64 (73 : Nat)))).put (.int .u8 31) (.lit (.int .i64 (75 : Nat))))
theorem mapS_at (op : Int) (h1 : 24 ≤ op) (h2 : op ≤ 31) : (mapS (H := Nat)).atKey (.int .u8 op) (.lit (.int .i64 (-1))) = .lit (.int .i64 (fnNum op : Nat)) := by
  have : op = 24 ∨ op = 25 ∨ op = 26 ∨ op = 27 ∨ op = 28 ∨ op = 29 ∨ op = 30 ∨ op = 31 := by omega
  rcases this with rfl | rfl | rfl | rfl | rfl | rfl | rfl | rfl <;> (apply Eq.symm; kernel_rfl)
theorem sets_walk (op : Int) (h0 : 0 ≤ op) (h1 : op ≤ 255) (w : World) :
    Calls Try.prog 32 #[.int .u8 op] w (Looked (H := Nat) (mapS.atKey (.int .u8 op) (.lit (.int .i64 (-1)))) w) := by
  have hmm := @run_makeMap Try.prog
  have k24 := keyU8 24 (by omega) (by omega)
  have k25 := keyU8 25 (by omega) (by omega)
  have k26 := keyU8 26 (by omega) (by omega)
  have k27 := keyU8 27 (by omega) (by omega)
  have k28 := keyU8 28 (by omega) (by omega)
  have k29 := keyU8 29 (by omega) (by omega)
  have k30 := keyU8 30 (by omega) (by omega)
  have k31 := keyU8 31 (by omega) (by omega)
  have kop := keyU8 op (by omega) (by omega)
  have own0 := World.ownsMap_made (H := Nat) w Try.prog 5 fnElem
  have b0 : Below w.heap.size w (w.alloc (.map #[] 0)) := (Below.refl _ _).alloc (Nat.le_refl _) _
  go_enter Try.func32, Try.ntmps32
  go_wp2_with (refine wpList_insert_fn _ rfl _ _ _ 48 rfl 5 43 lawK Try.underlying48 _ _ _ rfl own0 (by unfold maxLen; omega) _ _ _ rfl rfl k24 ?_)
  intro w1 own1 g1
  have b1 := b0.grown g1 b0.size (fun j hj => by cases hj; exact Nat.le_refl _)
  clear own0 g1 b0
  go_wp2_with (refine wpList_insert_fn _ rfl _ _ _ 48 rfl 5 43 lawK Try.underlying48 _ _ _ rfl own1 (by unfold maxLen; omega) _ _ _ rfl rfl k25 ?_)
  intro w2 own2 g2
  have b2 := b1.grown g2 b1.size (fun j hj => by cases hj; exact Nat.le_refl _)
  clear own1 g2 b1
  go_wp2_with (refine wpList_insert_fn _ rfl _ _ _ 48 rfl 5 43 lawK Try.underlying48 _ _ _ rfl own2 (by unfold maxLen; omega) _ _ _ rfl rfl k26 ?_)
  intro w3 own3 g3
  have b3 := b2.grown g3 b2.size (fun j hj => by cases hj; exact Nat.le_refl _)
  clear own2 g3 b2
  go_wp2_with (refine wpList_insert_fn _ rfl _ _ _ 48 rfl 5 43 lawK Try.underlying48 _ _ _ rfl own3 (by unfold maxLen; omega) _ _ _ rfl rfl k27 ?_)
  intro w4 own4 g4
  have b4 := b3.grown g4 b3.size (fun j hj => by cases hj; exact Nat.le_refl _)
  clear own3 g4 b3
  go_wp2_with (refine wpList_insert_fn _ rfl _ _ _ 48 rfl 5 43 lawK Try.underlying48 _ _ _ rfl own4 (by unfold maxLen; omega) _ _ _ rfl rfl k28 ?_)
  intro w5 own5 g5
  have b5 := b4.grown g5 b4.size (fun j hj => by cases hj; exact Nat.le_refl _)
  clear own4 g5 b4
  go_wp2_with (refine wpList_insert_fn _ rfl _ _ _ 48 rfl 5 43 lawK Try.underlying48 _ _ _ rfl own5 (by unfold maxLen; omega) _ _ _ rfl rfl k29 ?_)
  intro w6 own6 g6
  have b6 := b5.grown g6 b5.size (fun j hj => by cases hj; exact Nat.le_refl _)
  clear own5 g6 b5
  go_wp2_with (refine wpList_insert_fn _ rfl _ _ _ 48 rfl 5 43 lawK Try.underlying48 _ _ _ rfl own6 (by unfold maxLen; omega) _ _ _ rfl rfl k30 ?_)
  intro w7 own7 g7
  have b7 := b6.grown g7 b6.size (fun j hj => by cases hj; exact Nat.le_refl _)
  clear own6 g7 b6
  go_wp2_with (refine wpList_insert_fn _ rfl _ _ _ 48 rfl 5 43 lawK Try.underlying48 _ _ _ rfl own7 (by unfold maxLen; omega) _ _ _ rfl rfl k31 ?_)
  intro w8 own8 g8
  have b8 := b7.grown g8 b7.size (fun j hj => by cases hj; exact Nat.le_refl _)
  clear own7 g8 b7
  go_wp2_with (refine wpList_lookup_fn _ rfl _ _ 48 rfl 5 43 lawK Try.underlying48 (zeroFn _) _ _ _ rfl own8 _ _ rfl kop ?_)
  intro v ps hv
  have HV := Lib.hid hv
  clear hv own8
  go_wp2
  go_ret
  exact ⟨v, ps, rfl, HV.out, b8⟩

theorem sets_any (op : Int) (h0 : 24 ≤ op) (h1 : op ≤ 31) (w : World) :
    Calls Try.prog 32 #[.int .u8 op] w fun e w' => e = .returned (.func (.func (fnNum op)) #[] #[]) ∧ Below w.heap.size w w' := by
  refine (sets_walk op (by omega) (by omega) w).mono ?_
  rintro e w' ⟨v, ps, rfl, hv, hb⟩
  rw [mapS_at op h0 h1] at hv
  obtain rfl := fnElem_inv hv
  exact ⟨rfl, hb⟩

theorem sets_nil (op : Int) (h0 : 32 ≤ op) (h1 : op ≤ 255) (w : World) :
    Calls Try.prog 32 #[.int .u8 op] w fun e w' => e = .returned .nilFunc ∧ Below w.heap.size w w' := by
  refine (sets_walk op (by omega) (by omega) w).mono ?_
  rintro e w' ⟨v, ps, rfl, hv, hb⟩
  unfold mapS at hv
  rw [Maps.atKey_put_other (by intro h; simp only [Lit.int.injEq, true_and] at h; omega)] at hv
  rw [Maps.atKey_put_other (by intro h; simp only [Lit.int.injEq, true_and] at h; omega)] at hv
  rw [Maps.atKey_put_other (by intro h; simp only [Lit.int.injEq, true_and] at h; omega)] at hv
  rw [Maps.atKey_put_other (by intro h; simp only [Lit.int.injEq, true_and] at h; omega)] at hv
  rw [Maps.atKey_put_other (by intro h; simp only [Lit.int.injEq, true_and] at h; omega)] at hv
  rw [Maps.atKey_put_other (by intro h; simp only [Lit.int.injEq, true_and] at h; omega)] at hv
  rw [Maps.atKey_put_other (by intro h; simp only [Lit.int.injEq, true_and] at h; omega)] at hv
  rw [Maps.atKey_put_other (by intro h; simp only [Lit.int.injEq, true_and] at h; omega)] at hv
  obtain rfl := fnElem_nil hv
  exact ⟨rfl, hb⟩
end Go.Proofs.Ytcecjjjehhjldaa
