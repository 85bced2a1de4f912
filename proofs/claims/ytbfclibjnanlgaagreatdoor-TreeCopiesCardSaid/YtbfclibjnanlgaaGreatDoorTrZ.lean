/- Several texts in one. -/
import Derived.Test.YtbfclibjnanlgaaGreatDoorTrP
import Derived.Test.YtbfclibjnanlgaaGreatDoorPlT
import Derived.Test.YtbfclibjnanlgaaGreatDoorTwBt
/- The text of a tree. -/
namespace Go.Proofs.YtbfclibjnanlgaaGreatDoor
open Go.RowKit
set_option maxHeartbeats 1000000
set_option linter.unusedVariables false

def atT (d : ND) : List UInt8 := if txtOf d.l d.c = [] then [45] else txtOf d.l d.c
/-- The beginning of a node's text. -/
def headT (d : ND) : List UInt8 := 40 :: (Lib.itoa d.k ++ 32 :: (atT d ++ 32 :: (Lib.itoa d.x.length ++ 58 :: (d.x ++ 32 :: Lib.itoa d.n))))
mutual
def textT : Tr → List UInt8
  | .node p d ks => headT d ++ (textTL ks ++ [41])
def textTL : List Tr → List UInt8
  | [] => []
  | t :: r => 32 :: (textT t ++ textTL r)
end
theorem textTL_app (a b : List Tr) : textTL (a ++ b) = textTL a ++ textTL b := by
  induction a with
  | nil => rfl
  | cons t r ih => simp [textTL, ih]
theorem textT_eq (t : Tr) : textT t = headT t.d ++ (textTL t.ks ++ [41]) := by cases t; rfl
/-- What may be a node's number, kind. -/
def OkD (d : ND) : Prop := d.k ≤ 255 ∧ -9223372036854775808 ≤ d.n ∧ d.n ≤ 9223372036854775807
mutual
def OkT : Tr → Prop
  | .node p d ks => OkD d ∧ OkTL ks
def OkTL : List Tr → Prop
  | [] => True
  | t :: r => OkT t ∧ OkTL r
end
theorem okT_eq (t : Tr) : OkT t ↔ OkD t.d ∧ OkTL t.ks := by cases t; exact Iff.rfl
theorem okTL_app (a b : List Tr) : OkTL (a ++ b) ↔ OkTL a ∧ OkTL b := by
  induction a with
  | nil => simp [OkTL]
  | cons t r ih => simp only [List.cons_append, OkTL, ih, and_assoc]
/-- What the closures of Text make of the bytes so far. -/
def sepT (s : List UInt8) : List UInt8 := if s = [] then [] else [32]
def txEn (t : Tr) (s : List UInt8) : List UInt8 := (s ++ sepT s) ++ headT t.d
def txLv (s : List UInt8) : List UInt8 := s ++ [41]
def txQ (n : Nat) (r : List Tr) (s : List UInt8) : Prop := s.length + (textTL r).length + n ≤ 70368744177664 ∧ OkTL r
theorem sep_len (s : List UInt8) : (sepT s).length ≤ 1 := by unfold sepT; split <;> simp
theorem tx_qent (s : List UInt8) (n : Nat) (t : Tr) (r : List Tr) (h : txQ n (t :: r) s) : txQ (n + 1) (t.ks ++ r) (txEn t s) := by
  obtain ⟨h1, h2⟩ := h
  have := sep_len s
  refine ⟨?_, (okTL_app _ _).2 ⟨((okT_eq t).1 h2.1).2, h2.2⟩⟩
  simp only [textTL, textT_eq, List.length_cons, List.length_append, List.length_nil] at h1
  rw [textTL_app]
  simp only [txEn, List.length_append]
  omega
theorem tx_qlev (s : List UInt8) (n : Nat) (r : List Tr) (h : txQ (n + 1) r s) : txQ n r (txLv s) := by
  obtain ⟨h1, h2⟩ := h
  refine ⟨?_, h2⟩
  simp only [txLv, List.length_append, List.length_cons, List.length_nil]
  omega
theorem headT_ne (d : ND) : headT d ≠ [] := by simp [headT]
end Go.Proofs.YtbfclibjnanlgaaGreatDoor
/- tree.Text: what it writes. -/
namespace Go.Proofs.YtbfclibjnanlgaaGreatDoor
open Go.RowKit
set_option maxHeartbeats 1000000
set_option linter.unusedVariables false

mutual
theorem run_tx : ∀ (t : Tr) (s : List UInt8), runTt txEn txLv t s = s ++ (sepT s ++ textT t)
  | .node p d ks, s => by
    rw [runTt, run_txL ks _ (by simp [txEn, headT])]
    simp [txEn, txLv, textT, Tr.d]
theorem run_txL : ∀ (l : List Tr) (s : List UInt8), s ≠ [] → runLt txEn txLv l s = s ++ textTL l
  | [], s, _ => by simp [runLt, textTL]
  | t :: r, s, h => by
    have h1 := run_tx t s
    rw [runLt, run_txL r _ (by rw [h1]; simp [h]), h1]
    simp [textTL, sepT, h]
end
end Go.Proofs.YtbfclibjnanlgaaGreatDoor
