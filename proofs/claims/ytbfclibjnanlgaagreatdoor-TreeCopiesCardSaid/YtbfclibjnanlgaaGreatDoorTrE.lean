/- Pairs of pointers as keys of a map; tree.alike, walked. -/
import Derived.Test.YtbfclibjnanlgaaGreatDoorTwA
import Derived.Laws.StructEq
import Derived.Deep.QuietTactic
import Derived.BigQuiet
namespace Go.Proofs.YtbfclibjnanlgaaGreatDoor
open Go.RowKit
set_option maxHeartbeats 2000000
set_option maxRecDepth 100000
set_option linter.unusedVariables false
set_option linter.unusedSimpArgs false

theorem undQ : Tryz.prog.underlying 69 = some (.struct (Tryz.prog.fieldsOf 69)) := by kernel_rfl
theorem heldQ : Tryz.prog.stoodInHeld 69 = false := by kernel_rfl
theorem fieldsQ : ∃ f g : Field, (Tryz.prog.fieldsOf 69) = #[f, g] ∧ f.name = "a" ∧ f.type = 25 ∧ f.offset = 0 ∧ g.name = "b" ∧ g.type = 25 ∧ g.offset = 1 := by
  refine ⟨_, _, (by kernel_rfl : Tryz.prog.fieldsOf 69 = #[(Tryz.prog.fieldsOf 69).getD 0 default, (Tryz.prog.fieldsOf 69).getD 1 default]), ?_, ?_, ?_, ?_, ?_, ?_⟩ <;> kernel_rfl
theorem partP (w : World) (x y : Value) : (part 25 #[x, y] 0).run Tryz.prog w = .ok x w ∧ (part 25 #[x, y] 1).run Tryz.prog w = .ok y w := by
  constructor <;> simp [part, Tryz.isAgg25]
theorem encQ_eq (x : Option Nat × Option Nat) : encQ x = .agg #[encP x.1, encP x.2] := rfl
theorem eqQ (w : World) (a b : Option Nat × Option Nat) {base : Nat} (ha : okQ base w a) (hb : okQ base w b) : (Op.equal 69 (encQ a) (encQ b)).run Tryz.prog w = .ok (decide (a = b)) w := by
  obtain ⟨f, g, h0, h1, h2, h3, h4, h5, h6⟩ := fieldsQ
  obtain ⟨a1, a2⟩ := a
  obtain ⟨b1, b2⟩ := b
  have e1 : (Op.equalIn 9999 25 (encP a1) (encP b1)).run Tryz.prog w = .ok (decide (a1 = b1)) w := eqPin 9998 w a1 b1 ha.1 hb.1
  have e2 : (Op.equalIn 9999 25 (encP a2) (encP b2)).run Tryz.prog w = .ok (decide (a2 = b2)) w := eqPin 9998 w a2 b2 ha.2 hb.2
  have p1 := partP w (encP a1) (encP a2)
  have p2 := partP w (encP b1) (encP b2)
  simp only [Op.equal, Op.maxDepth, encQ_eq]
  rw [run_equalIn_agg w 9999 _ _ _ undQ heldQ, h0]
  simp only [Op.eqFields, h1, h2, h3, h4, h5, h6]
  simp [p1.1, p1.2, p2.1, p2.2, e1, e2, Result.andThen]
  by_cases q1 : a1 = b1
  · by_cases q2 : a2 = b2
    · simp [q1, q2]
    · simp [q1, q2]
  · simp [q1]
theorem checkQ (w : World) (em : Bool) (a : Option Nat × Option Nat) : (Instr.checkKey em 10000 69 (encQ a)).run Tryz.prog w = .ok () w := by
  obtain ⟨f, g, h0, h1, h2, h3, h4, h5, h6⟩ := fieldsQ
  obtain ⟨a1, a2⟩ := a
  have p1 := partP w (encP a1) (encP a2)
  have c1 : (Instr.checkKey em 9999 25 (encP a1)).run Tryz.prog w = .ok () w := chkP 9998 w em a1
  have c2 : (Instr.checkKey em 9999 25 (encP a2)).run Tryz.prog w = .ok () w := chkP 9998 w em a2
  rw [encQ_eq, show (10000 : Nat) = 9999 + 1 from rfl, Instr.checkKey]
  simp only [Sem.run_bind, run_underlying undQ, Result.andThen_ok, h0]
  simp [h1, h2, h3, h4, h5, h6, p1.1, p1.2, c1, c2, Result.andThen]
theorem keyQ (base : Nat) : KeyK Tryz.prog 69 encQ (okQ base) where
  und := ⟨_, undQ, fun a b => rfl⟩
  check := checkQ
  eq := fun w a b ha hb => eqQ w a b ha hb
  stays := fun a => by
    obtain ⟨a1, a2⟩ := a
    simp [encQ_eq, Instr.sameBits, sbP]
  set := fun w w' b es c hb hk a h => ⟨okP_set base w w' b es c hb hk a.1 h.1, okP_set base w w' b es c hb hk a.2 h.2⟩
/-- Are two nodes alike, but for their places? -/
def alikeD (d e : ND) (m n : Nat) : Bool := decide (d.k = e.k) && decide (d.x = e.x) && decide (d.n = e.n) && decide (m = n)
theorem alike_any (w : World) (p q : Nat) (d e : ND) (a b : Option Addr) (m n ca cb : Nat) (hp : w.heap[p]? = some (nodeO d (.slice a m ca))) (hq : w.heap[q]? = some (nodeO e (.slice b n cb))) :
    Calls Tryz.prog 35 #[ptrV p, ptrV q] w fun r w' => r = .returned (.bool (alikeD d e m n)) ∧ Below w.heap.size w w' := by
  have hP : NodeAt w p d (.slice a m ca) := ⟨hp⟩
  have hQ : NodeAt w q e (.slice b n cb) := ⟨hq⟩
  have p0 := hP.c0
  have p2 := hP.c2
  have p3 := hP.c3
  have p4 := hP.c4
  have q0 := hQ.c0
  have q2 := hQ.c2
  have q3 := hQ.c3
  have q4 := hQ.c4
  have ex : (⟨d.x.toArray⟩ : ByteArray).toList = d.x := by rw [ByteArray.toList_eq]
  have ey : (⟨e.x.toArray⟩ : ByteArray).toList = e.x := by rw [ByteArray.toList_eq]
  clear hP hQ hp hq
  simp only [ptrV]
  unfold alikeD
  by_cases h1 : d.k = e.k
  · have b1 : ((d.k : Int) == (e.k : Int)) = true := by simp [h1]
    by_cases h2 : d.x = e.x
    · have b2 : ((⟨d.x.toArray⟩ : ByteArray).toList == (⟨e.x.toArray⟩ : ByteArray).toList) = true := by rw [ex, ey]; simp [h2]
      by_cases h3 : d.n = e.n
      · have b3 : (d.n == e.n) = true := by simp [h3]
        by_cases h4 : m = n
        · have b4 : ((m : Int) == (n : Int)) = true := by simp [h4]
          rw [decide_eq_true h1, decide_eq_true h2, decide_eq_true h3, decide_eq_true h4]
          clear ex ey h1 h2 h3 h4
          generalize (d.k : Int) = dk at *
          generalize (e.k : Int) = ek at *
          generalize (⟨d.x.toArray⟩ : ByteArray) = dx at *
          generalize (⟨e.x.toArray⟩ : ByteArray) = ex at *
          generalize d.n = dn at *
          generalize e.n = en at *
          go_enter Tryz.func35, Tryz.ntmps35
          go_wp2_with fail
          go_quiet (fail)
          go_wp2_with fail
          go_ret
          exact ⟨rfl, (Fr.drewN w _).below _ (by simp) (Nat.le_refl _)⟩
        · have b4 : ((m : Int) == (n : Int)) = false := beq_eq_false_iff_ne.2 (fun h => h4 (by omega))
          rw [decide_eq_true h1, decide_eq_true h2, decide_eq_true h3, decide_eq_false h4]
          simp only [Bool.true_and, Bool.false_and, Bool.and_false]
          clear ex ey h1 h2 h3 h4
          generalize (d.k : Int) = dk at *
          generalize (e.k : Int) = ek at *
          generalize (⟨d.x.toArray⟩ : ByteArray) = dx at *
          generalize (⟨e.x.toArray⟩ : ByteArray) = ex at *
          generalize d.n = dn at *
          generalize e.n = en at *
          go_enter Tryz.func35, Tryz.ntmps35
          go_wp2_with fail
          go_quiet (fail)
          go_wp2_with fail
          go_ret
          exact ⟨rfl, (Fr.drewN w _).below _ (by simp) (Nat.le_refl _)⟩
      · have b3 : (d.n == e.n) = false := beq_eq_false_iff_ne.2 h3
        rw [decide_eq_true h1, decide_eq_true h2, decide_eq_false h3]
        simp only [Bool.true_and, Bool.false_and, Bool.and_false]
        clear ex ey h1 h2 h3
        generalize (d.k : Int) = dk at *
        generalize (e.k : Int) = ek at *
        generalize (⟨d.x.toArray⟩ : ByteArray) = dx at *
        generalize (⟨e.x.toArray⟩ : ByteArray) = ex at *
        generalize d.n = dn at *
        generalize e.n = en at *
        go_enter Tryz.func35, Tryz.ntmps35
        go_wp2_with fail
        go_quiet (fail)
        go_wp2_with fail
        go_ret
        exact ⟨rfl, (Fr.drewN w _).below _ (by simp) (Nat.le_refl _)⟩
    · have b2 : ((⟨d.x.toArray⟩ : ByteArray).toList == (⟨e.x.toArray⟩ : ByteArray).toList) = false := by rw [ex, ey]; exact beq_eq_false_iff_ne.2 h2
      rw [decide_eq_true h1, decide_eq_false h2]
      simp only [Bool.true_and, Bool.false_and, Bool.and_false]
      clear ex ey h1 h2
      generalize (d.k : Int) = dk at *
      generalize (e.k : Int) = ek at *
      generalize (⟨d.x.toArray⟩ : ByteArray) = dx at *
      generalize (⟨e.x.toArray⟩ : ByteArray) = ex at *
      generalize d.n = dn at *
      generalize e.n = en at *
      go_enter Tryz.func35, Tryz.ntmps35
      go_wp2_with fail
      go_quiet (fail)
      go_wp2_with fail
      go_ret
      exact ⟨rfl, (Fr.drewN w _).below _ (by simp) (Nat.le_refl _)⟩
  · have b1 : ((d.k : Int) == (e.k : Int)) = false := beq_eq_false_iff_ne.2 (fun h => h1 (by omega))
    rw [decide_eq_false h1]
    simp only [Bool.true_and, Bool.false_and, Bool.and_false]
    clear ex ey h1
    generalize (d.k : Int) = dk at *
    generalize (e.k : Int) = ek at *
    generalize (⟨d.x.toArray⟩ : ByteArray) = dx at *
    generalize (⟨e.x.toArray⟩ : ByteArray) = ex at *
    generalize d.n = dn at *
    generalize e.n = en at *
    go_enter Tryz.func35, Tryz.ntmps35
    go_wp2_with fail
    go_quiet (fail)
    go_wp2_with fail
    go_ret
    exact ⟨rfl, (Fr.drewN w _).below _ (by simp) (Nat.le_refl _)⟩
end Go.Proofs.YtbfclibjnanlgaaGreatDoor
