/- Aids for the row of law 6 that takes seeds: a list of structs that came in, read, and read again behind the call. -/
import Derived.Test.YtnaihncmichfaaaRwE
import Derived.Test.YtnaihncmichfaaaMrA
import Derived.Deep.Fields
import Derived.WideKeyArgs
import Derived.ChangeOld
import Derived.SizedLaws
namespace Go.Proofs.Ytnaihncmichfaaa
open Go Go.ChangeShapes Go.WideShapes Go.ChangeAt Go.RowKit
set_option maxHeartbeats 2000000
set_option maxRecDepth 100000
set_option linter.unusedVariables false
set_option linter.unusedSimpArgs false

theorem u8_nat {n : Int} (h : (Lit.int .u8 n).wf = true) : ∃ k : Nat, n = k ∧ k ≤ 255 := by
  obtain ⟨h1, h2⟩ := of_wf_u8 h
  exact ⟨n.toNat, by omega, by omega⟩
theorem u16_nat {n : Int} (h : (Lit.int .u16 n).wf = true) : ∃ k : Nat, n = k ∧ k ≤ 65535 := by
  obtain ⟨h1, h2⟩ := of_wf_u16 h
  exact ⟨n.toNat, by omega, by omega⟩
theorem hC2 : Try.prog.cellsOf 5 = 1 ∧ Try.prog.cellsOf 38 = 1 ∧ Try.prog.cellsOf 55 = 2 := ⟨by kernel_rfl, by kernel_rfl, by kernel_rfl⟩
theorem plain_add (g o n : Nat) : (⟨g, o, none⟩ : Addr).add n = ⟨g, o + n, none⟩ := Lib.add_plain g o n
theorem take_seed {H : Type} {enc : TypeId × Value → H} {W : World} {n : Nat} {a : Addr} {cs : List Value} {D : DataW H} {Pl : List MemPlace} (h1 : W.cells? 0 a 2 = some cs)
    (h2 : DataW.trod enc Try.prog W 0 (fun _ => true) true n 55 cs = some (D, Pl)) :
    ∃ (x : Nat × Nat) (g o : Nat), a = ⟨g, o, none⟩ ∧ W.cell? ⟨g, o, none⟩ = some (.int .u8 x.1) ∧ W.cell? ⟨g, o + 1, none⟩ = some (.int .u16 x.2) ∧ x.1 ≤ 255 ∧ x.2 ≤ 65535 := by
  obtain ⟨_, hlen, hat⟩ := World.cells?_some h1
  obtain ⟨xs, m, _, hx, _, hxl, hf⟩ := DataW.trod_struct Try.underlying55 h2
  obtain ⟨k1, k2, _⟩ := hC2
  match cs, hlen, xs, hxl with
  | [c0, c1], _, [y0, y1], _ =>
    have f0 := hf 0 _ rfl
    have f1 := hf 1 _ rfl
    simp only [k1, k2, List.drop, List.take, List.drop_succ_cons, List.take_succ_cons, List.getElem?_cons_zero, List.getElem?_cons_succ] at f0 f1
    obtain ⟨n0, e0, z0, w0⟩ := DataW.trod_int Try.underlying5 f0
    obtain ⟨n1, e1, z1, w1⟩ := DataW.trod_int Try.underlying38 f1
    obtain ⟨m0, rfl, b0⟩ := u8_nat w0
    obtain ⟨m1, rfl, b1⟩ := u16_nat w1
    injection e0 with e0 _
    injection e1 with e1 _
    subst e0 e1
    obtain ⟨g, o, sp⟩ := a
    have hs : sp = none := by
      have := hat 0 (by decide)
      simpa [Addr.add] using World.cell?_spot this
    subst hs
    simp only [plain_add] at hat
    refine ⟨(m0, m1), g, o, rfl, ?_, ?_, b0, b1⟩
    · simpa using hat 0 (by decide)
    · simpa using hat 1 (by decide)
theorem take_seeds {H : Type} {enc : TypeId × Value → H} {W : World} {base : Nat} {v : Value} {d : DataW H} {p : List MemPlace}
    (hval : Value.okWide Try.prog W .any base 32 v) (h : DataW.Trod enc Try.prog W 0 (fun _ => true) true 32 v d p) :
    ∃ l : List (Nat × Nat), SeedRow W v l ∧ ∀ x ∈ l, x.1 ≤ 255 ∧ x.2 ≤ 65535 := by
  obtain ⟨a0, len, cap, rfl⟩ := okWide_slice Try.underlying32 hval
  obtain ⟨fuel, hf⟩ := h
  rcases Deep.open_slice Try.underlying32 hf with ⟨hcs, hx⟩ | ⟨a, len', cap', m, n, D, Pl, hcs, _, hl, hm, hmm, hx, hi⟩
  · simp [Value.cells] at hcs
    obtain ⟨rfl, rfl, rfl⟩ := hcs
    exact ⟨[], ⟨none, 0, rfl, Nat.le_refl _, by decide, fun hne => absurd rfl hne⟩, fun x hx => by cases hx⟩
  · simp [Value.cells] at hcs
    obtain ⟨rfl, rfl, rfl⟩ := hcs
    simp only [if_true] at hmm
    subst hmm
    rw [hC2.2.2] at hi
    obtain ⟨f, hfs⟩ := Deep.choose_lt (α := Nat × Nat) (n := len) (p := fun i x => ∃ g o, a.add (i * 2) = ⟨g, o, none⟩ ∧ W.cell? ⟨g, o, none⟩ = some (.int .u8 x.1) ∧ W.cell? ⟨g, o + 1, none⟩ = some (.int .u16 x.2) ∧ x.1 ≤ 255 ∧ x.2 ≤ 65535) (fun i hil => by
      obtain ⟨cs', h1, h2⟩ := hi i (by omega)
      exact take_seed h1 h2)
    refine ⟨(List.range len).map f, ⟨some a, m, by simp, by simpa using hl, by unfold maxLen at hm; omega, fun hne => ?_⟩, fun x hx => ?_⟩
    · have hpos : 0 < len := by
        rcases Nat.eq_zero_or_pos len with h0 | h0
        · subst h0; exact absurd rfl hne
        · exact h0
      obtain ⟨g0, o0, ha0, hc0, _⟩ := hfs 0 hpos
      have hae : a = ⟨g0, o0, none⟩ := by simpa [Addr.add] using ha0
      subst hae
      refine ⟨g0, o0, rfl, World.block_lt_of_cell? _ _ hc0, fun i x hx => ?_⟩
      rw [List.getElem?_map] at hx
      obtain ⟨i', hi1, rfl⟩ := Option.map_eq_some_iff.1 hx
      obtain ⟨hil, rfl⟩ := List.getElem?_eq_some_iff.1 hi1
      simp only [List.length_range] at hil
      simp only [List.getElem_range]
      obtain ⟨g, o, ha, c1, c2, _⟩ := hfs i hil
      rw [plain_add] at ha
      injection ha with e1 e2 _
      subst e1 e2
      exact ⟨c1, c2⟩
    · obtain ⟨i, hi, rfl⟩ := List.mem_map.1 hx
      obtain ⟨_, _, _, _, _, h⟩ := hfs i (List.mem_range.1 hi)
      exact h
theorem laidOut : laidOutB Try.prog = true := by kernel_rfl
/-- What came in is read again behind the call. -/
theorem again {H : Type} {enc : TypeId × Value → H} {t : TypeId} (hr : Try.prog.readableRec t = true) (hrow : t < Try.prog.types.size) {W W' : World} {v : Value} {d : DataW H} {p : List MemPlace}
    (h : DataW.Trod enc Try.prog W 0 (fun _ => true) true t v d p) (hb : Below W.heap.size W W') : DataW.Trod enc Try.prog W' 0 (fun b => decide (b < W.heap.size)) true t v d p := by
  have hlt : ∀ q ∈ p, q.block < W.heap.size := by
    obtain ⟨n, hn⟩ := h
    exact fun q hq => DataW.trod_lt n _ _ _ hn q hq
  exact WideElems.Trod_stays laidOut hr hrow h (fun q hq => hb.same (hlt q hq)) (fun q hq => by simpa using hlt q hq)
end Go.Proofs.Ytnaihncmichfaaa
