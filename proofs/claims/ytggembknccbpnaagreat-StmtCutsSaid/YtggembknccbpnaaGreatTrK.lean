/- Pointers to nodes, and pairs of them, as keys of a map; pointers compared. -/
import Derived.Test.YtggembknccbpnaaGreatTrP
import Derived.Test.YtggembknccbpnaaGreatPmA
namespace Go.Proofs.YtggembknccbpnaaGreat
open Go.RowKit
set_option maxHeartbeats 1000000
set_option linter.unusedVariables false

def encP : Option Nat → Value
  | none => .pointer none
  | some p => ptrV p
def okNd (base : Nat) (w : World) (a : Option Nat) : Prop := ∀ p, a = some p → p < base ∧ ∃ cs T, w.heap[p]? = some (.cells cs T (0, 0))
theorem okNd.below {base : Nat} {w w' : World} {a : Option Nat} (h : okNd base w a) (hb : Below base w w') : okNd base w' a := fun p hp => by
  obtain ⟨h1, cs, T, h2⟩ := h p hp
  exact ⟨h1, cs, T, (hb.block p h1).trans h2⟩
theorem node_info : (Tryz.prog.info? 42).map (·.size) = some 5 := by kernel_rfl
theorem eqPin (d : Nat) (w : World) (a b : Option Nat) {base : Nat} (ha : okNd base w a) (hb : okNd base w b) : (Op.equalIn (d + 1) 26 (encP a) (encP b)).run Tryz.prog w = .ok (decide (a = b)) w := by
  obtain ⟨j, hj, hjs⟩ := Option.map_eq_some_iff.1 node_info
  cases a with
  | none => cases b <;> simp [encP, ptrV, Op.equalIn, run_underlying Tryz.underlying26]
  | some p =>
    cases b with
    | none => simp [encP, ptrV, Op.equalIn, run_underlying Tryz.underlying26]
    | some q =>
      by_cases h : p = q
      · subst h
        simp [encP, ptrV, Op.equalIn, run_underlying Tryz.underlying26, sizeOf, typeInfo, hj, run_sameAddr_same]
      · obtain ⟨_, c1, t1, h1⟩ := ha p rfl
        obtain ⟨_, c2, t2, h2⟩ := hb q rfl
        have := run_sameAddr_other (P := Tryz.prog) w (a := ⟨p, 0, none⟩) (b := ⟨q, 0, none⟩) (fun e => h (by injection e)) h1 h2
        simp [encP, ptrV, Op.equalIn, run_underlying Tryz.underlying26, sizeOf, typeInfo, hj, hjs, this, h]
theorem okP_set (base : Nat) (w w' : World) (b : Nat) (es : Array MapEntry) (c : Nat) (hb : w.heap[b]? = some (.map es c)) (hk : ∀ j, j ≠ b → w'.heap[j]? = w.heap[j]?) (a : Option Nat) (h : okNd base w a) : okNd base w' a := by
  intro p hp
  obtain ⟨h0, cs, T, h1⟩ := h p hp
  refine ⟨h0, cs, T, (hk p (fun e => ?_)).trans h1⟩
  subst e
  rw [hb] at h1; cases h1
theorem chkP (d : Nat) (w : World) (em : Bool) (a : Option Nat) : (Instr.checkKey em (d + 1) 26 (encP a)).run Tryz.prog w = .ok () w := by
  cases a <;> simp [Instr.checkKey, encP, ptrV, run_underlying Tryz.underlying26]
theorem sbP (n : Nat) (a : Option Nat) : Instr.sameBits n (encP a) (encP a) = true := by
  cases n <;> cases a <;> simp [encP, ptrV, Instr.sameBits]
theorem keyP (base : Nat) : KeyK Tryz.prog 26 encP (okNd base) where
  und := ⟨_, Tryz.underlying26, fun a b => by cases a <;> cases b <;> rfl⟩
  check := fun w em a => chkP 9999 w em a
  eq := fun w a b ha hb => eqPin 9999 w a b ha hb
  stays := fun a => sbP 10000 a
  set := okP_set base
/-- '==' of two pointers to nodes. -/
theorem run_eqP (w : World) (a b : Option Nat) {base : Nat} (ha : okNd base w a) (hb : okNd base w b) : (binOp .eql 26 (encP a) (encP b)).run Tryz.prog w = .ok (.bool (decide (a = b))) w := by
  have h := eqPin 9999 w a b ha hb
  have h' : (Op.equal 26 (encP a) (encP b)).run Tryz.prog w = .ok (decide (a = b)) w := h
  cases a <;> cases b <;> (simp only [encP, ptrV] at h' ⊢; simp only [binOp]; simp [h'])
/-- A pair of pointers. -/
def encQ (x : Option Nat × Option Nat) : Value := .agg #[encP x.1, encP x.2]
def okQ (base : Nat) (w : World) (x : Option Nat × Option Nat) : Prop := okNd base w x.1 ∧ okNd base w x.2
theorem encP_one (a : Option Nat) : (encP a).oneCell' = true := by cases a <;> rfl
end Go.Proofs.YtggembknccbpnaaGreat
