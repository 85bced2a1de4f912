/- A struct of four that came in, read, and read again behind the call. -/
import Derived.Test.YtpnohljhpoildaaRwN
import Derived.Test.YtpnohljhpoildaaKnR
import Derived.Deep.Fields
import Derived.WideKeyArgs
import Derived.ChangeOld
import Derived.SizedLaws
namespace Go.Proofs.Ytpnohljhpoildaa
open Go Go.ChangeShapes Go.WideShapes Go.ChangeAt Go.RowKit
set_option maxRecDepth 100000
set_option linter.unusedVariables false
set_option linter.unusedSimpArgs false

theorem laidOut : laidOutB Try.prog = true := by kernel_rfl
/-- What came in is read again behind the call. -/
theorem again {H : Type} {enc : TypeId × Value → H} {t : TypeId} (hr : Try.prog.readableRec t = true) (hrow : t < Try.prog.types.size) {W W' : World} {v : Value} {d : DataW H} {p : List MemPlace}
    (h : DataW.Trod enc Try.prog W 0 (fun _ => true) true t v d p) (hb : Below W.heap.size W W') : DataW.Trod enc Try.prog W' 0 (fun b => decide (b < W.heap.size)) true t v d p := by
  have hlt : ∀ q ∈ p, q.block < W.heap.size := by
    obtain ⟨n, hn⟩ := h
    exact fun q hq => DataW.trod_lt n _ _ _ hn q hq
  exact WideElems.Trod_stays laidOut hr hrow h (fun q hq => hb.same (hlt q hq)) (fun q hq => by simpa using hlt q hq)
theorem hC1 : Try.prog.cellsOf 5 = 1 ∧ Try.prog.cellsOf 9 = 1 ∧ Try.prog.cellsOf 2 = 1 ∧ Try.prog.cellsOf 3 = 1 ∧ Try.prog.cellsOf 23 = 4 := ⟨by kernel_rfl, by kernel_rfl, by kernel_rfl, by kernel_rfl, by kernel_rfl⟩
theorem take_raw {H : Type} {enc : TypeId × Value → H} {W : World} {base : Nat} {v : Value} {d : DataW H} {p : List MemPlace}
    (hval : Value.okWide Try.prog W .any base 23 v) (h : DataW.Trod enc Try.prog W 0 (fun _ => true) true 23 v d p) :
    ∃ r : RV, v = r.val ∧ r.wf ∧ r.x.size ≤ 9223372036854775807 := by
  obtain ⟨cs, rfl, hcs⟩ := okWide_struct Try.underlying23 hval
  obtain ⟨fuel, hf⟩ := h
  obtain ⟨xs, m, _, hx, hl, hxl, hf⟩ := DataW.trod_struct Try.underlying23 hf
  obtain ⟨k1, k2, k3, k4, k5⟩ := hC1
  rw [k5] at hcs
  obtain ⟨cl⟩ := cs
  simp only [Value.cells] at hf
  match cl, hcs, xs, hxl with
  | [c0, c1, c2, c3], _, [y0, y1, y2, y3], _ =>
    have f0 := hf 0 _ rfl
    have f1 := hf 1 _ rfl
    have f2 := hf 2 _ rfl
    have f3 := hf 3 _ rfl
    simp only [k1, k2, k3, k4, List.drop, List.take, List.drop_succ_cons, List.take_succ_cons, List.getElem?_cons_zero, List.getElem?_cons_succ] at f0 f1 f2 f3
    obtain ⟨n0, e0, z0, w0⟩ := DataW.trod_int Try.underlying5 f0
    obtain ⟨n1, e1, z1, w1⟩ := DataW.trod_int Try.underlying2 f1
    obtain ⟨s, e2, z2, w2⟩ := DataW.trod_string Try.underlying9 f2
    obtain ⟨n3, e3, z3, w3⟩ := DataW.trod_int Try.underlying3 f3
    injection e0 with e0 _
    injection e1 with e1 _
    injection e2 with e2 _
    injection e3 with e3 _
    subst e0 e1 e2 e3
    refine ⟨⟨n0, n1, s, n3⟩, rfl, ⟨of_wf_u8 w0, of_wf_i64 w1, of_wf_i64 w3⟩, ?_⟩
    show s.size ≤ _
    unfold maxLen at w2
    omega
end Go.Proofs.Ytpnohljhpoildaa
