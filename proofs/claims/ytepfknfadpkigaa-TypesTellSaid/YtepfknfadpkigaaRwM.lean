/- What a type is made of, that came in, read, and read again behind the call. -/
import Derived.Test.YtepfknfadpkigaaRwN
import Derived.Test.YtepfknfadpkigaaTyL
import Derived.Deep.Fields
import Derived.WideKeyArgs
import Derived.ChangeOld
import Derived.SizedLaws
namespace Go.Proofs.Ytepfknfadpkigaa
open Go Go.ChangeShapes Go.WideShapes Go.ChangeAt Go.RowKit
set_option maxHeartbeats 1000000
set_option maxRecDepth 100000
set_option linter.unusedVariables false
set_option linter.unusedSimpArgs false

theorem laidOut : laidOutB Try.prog = true := by kernel_rfl
/-- What came in is read again behind the call. -/
theorem again {H : Type} {enc : TypeId × Value → H} {t : TypeId} (hr : Try.prog.readableRec t = true) (hrow : t < Try.prog.types.size) {W W' : World} {v : Value} {d : DataW H} {p : List MemPlace}
    (h : DataW.Trod enc Try.prog W 0 (fun _ => true) true t v d p) (hb : Below W.heap.size W W') : DataW.Trod enc Try.prog W' 0 (fun b => decide (b < W.heap.size)) true t v d p := by
  have hlt : ∀ q ∈ p, q.block < W.heap.size := by
    obtain ⟨n, hn⟩ := h
    exact fun q hq => DataW.trod_lt n _ _ _ hn q hq
  exact WideElems.Trod_stays laidOut hr hrow h (fun q hq => hb.same (hlt q hq)) (fun q hq => by simpa using hlt q hq)
theorem row_u16 {H : Type} {enc : TypeId × Value → H} {W : World} {fuel : Nat} {c : Value} {x : DataW H × List MemPlace} (hf : DataW.trod enc Try.prog W 0 (fun _ => true) true fuel 48 [c] = some x) :
    ∃ (v : Sl) (l : List Int), c = .slice v.p v.n v.c ∧ Row W 0 v encU 1 l ∧ ∀ p ∈ l, 0 ≤ p ∧ p ≤ 65535 := by
  rcases Deep.open_slice1 Try.underlying48 (by kernel_rfl) hf with ⟨hcs, hx⟩ | ⟨a, len, cap, m, n, V, D, Pl, hcs, _, hl, hm, hmm, hx, hi⟩
  · simp only [List.cons.injEq, and_true] at hcs
    exact ⟨.no, [], hcs, row_nil _ _ _ _, fun p hp => by cases hp⟩
  · simp only [List.cons.injEq, and_true] at hcs
    simp only [if_true] at hmm
    subst hmm
    obtain ⟨f, hfs⟩ := Deep.choose_lt (α := Int) (n := len) (p := fun i b => W.cell? (a.add i) = some (.int .u16 b) ∧ 0 ≤ b ∧ b ≤ 65535) (fun i hil => by
      obtain ⟨h1, h2⟩ := hi i (by omega)
      obtain ⟨b, hb, _, hw⟩ := DataW.trod_int Try.underlying47 h2
      injection hb with hb _
      exact ⟨b, by rw [h1, hb], of_wf_u16 hw⟩)
    refine ⟨⟨some a, len, m⟩, (List.range len).map f, hcs, ⟨by simp, fun hne => ?_⟩, fun p hp => ?_⟩
    · have hpos : 0 < len := by
        rcases Nat.eq_zero_or_pos len with h0 | h0
        · subst h0; exact absurd rfl hne
        · exact h0
      obtain ⟨g, o, sp⟩ := a
      have h00 := hfs 0 hpos
      have hs : sp = none := by simpa [Addr.add] using World.cell?_spot h00.1
      subst hs
      have hlt := World.block_lt_of_cell? _ _ h00.1
      rw [Addr.add_mid] at hlt
      refine ⟨g, o, rfl, Nat.zero_le _, hlt, fun i x hx j v hv => ?_, fun h => absurd h (Nat.lt_irrefl _)⟩
      rw [List.getElem?_map] at hx
      obtain ⟨i', hi1, rfl⟩ := Option.map_eq_some_iff.1 hx
      obtain ⟨hil, rfl⟩ := List.getElem?_eq_some_iff.1 hi1
      simp only [List.length_range] at hil
      simp only [List.getElem_range] at hv
      have h0 := hfs i hil
      rw [Addr.add_mid] at h0
      match j, hv with
      | 0, hv =>
        injection hv with hv
        subst hv
        simpa using h0.1
      | j + 1, hv => simp [encU] at hv
    · obtain ⟨i, hi, rfl⟩ := List.mem_map.1 hp
      exact (hfs i (List.mem_range.1 hi)).2
theorem row_bool {H : Type} {enc : TypeId × Value → H} {W : World} {fuel : Nat} {c : Value} {x : DataW H × List MemPlace} (hf : DataW.trod enc Try.prog W 0 (fun _ => true) true fuel 49 [c] = some x) :
    ∃ (v : Sl) (l : List Bool), c = .slice v.p v.n v.c ∧ Row W 0 v encB 1 l := by
  rcases Deep.open_slice1 Try.underlying49 (by kernel_rfl) hf with ⟨hcs, hx⟩ | ⟨a, len, cap, m, n, V, D, Pl, hcs, _, hl, hm, hmm, hx, hi⟩
  · simp only [List.cons.injEq, and_true] at hcs
    exact ⟨.no, [], hcs, row_nil _ _ _ _⟩
  · simp only [List.cons.injEq, and_true] at hcs
    simp only [if_true] at hmm
    subst hmm
    obtain ⟨f, hfs⟩ := Deep.choose_lt (α := Bool) (n := len) (p := fun i b => W.cell? (a.add i) = some (.bool b)) (fun i hil => by
      obtain ⟨h1, h2⟩ := hi i (by omega)
      obtain ⟨b, hb, _⟩ := DataW.trod_bool Try.underlying4 h2
      injection hb with hb _
      exact ⟨b, by rw [h1, hb]⟩)
    refine ⟨⟨some a, len, m⟩, (List.range len).map f, hcs, ⟨by simp, fun hne => ?_⟩⟩
    · have hpos : 0 < len := by
        rcases Nat.eq_zero_or_pos len with h0 | h0
        · subst h0; exact absurd rfl hne
        · exact h0
      obtain ⟨g, o, sp⟩ := a
      have h00 := hfs 0 hpos
      have hs : sp = none := by simpa [Addr.add] using World.cell?_spot h00
      subst hs
      have hlt := World.block_lt_of_cell? _ _ h00
      rw [Addr.add_mid] at hlt
      refine ⟨g, o, rfl, Nat.zero_le _, hlt, fun i x hx j v hv => ?_, fun h => absurd h (Nat.lt_irrefl _)⟩
      rw [List.getElem?_map] at hx
      obtain ⟨i', hi1, rfl⟩ := Option.map_eq_some_iff.1 hx
      obtain ⟨hil, rfl⟩ := List.getElem?_eq_some_iff.1 hi1
      simp only [List.length_range] at hil
      simp only [List.getElem_range] at hv
      have h0 := hfs i hil
      rw [Addr.add_mid] at h0
      match j, hv with
      | 0, hv =>
        injection hv with hv
        subst hv
        simpa using h0
      | j + 1, hv => simp [encB] at hv
theorem hCM : Try.prog.cellsOf 5 = 1 ∧ Try.prog.cellsOf 47 = 1 ∧ Try.prog.cellsOf 21 = 1 ∧ Try.prog.cellsOf 48 = 1 ∧ Try.prog.cellsOf 49 = 1 ∧ Try.prog.cellsOf 51 = 7 := ⟨by kernel_rfl, by kernel_rfl, by kernel_rfl, by kernel_rfl, by kernel_rfl, by kernel_rfl⟩
theorem made_cells {H : Type} {enc : TypeId × Value → H} {W : World} {fuel : Nat} {cl : List Value} {x : DataW H × List MemPlace} (hl : cl.length = 7) (hf : DataW.trod enc Try.prog W 0 (fun _ => true) true fuel 51 cl = some x) :
    ∃ (m : MaV) (pl : List Int) (vl : List Bool), cl = [.int .u8 m.k, .int .u16 m.b, .int .u16 m.x, .int .i32 m.lo, .int .i32 m.hi, .slice m.ps.p m.ps.n m.ps.c, .slice m.vs.p m.vs.n m.vs.c] ∧ MaOk m pl ∧ Row W 0 m.ps encU 1 pl ∧ Row W 0 m.vs encB 1 vl := by
  obtain ⟨xs, m, _, hx, hl2, hxl, hf⟩ := DataW.trod_struct Try.underlying51 hf
  obtain ⟨k1, k2, k3, k4, k5, k6⟩ := hCM
  match cl, hl, xs, hxl with
  | [c0, c1, c2, c3, c4, c5, c6], _, [y0, y1, y2, y3, y4, y5, y6], _ =>
    have f0 := hf 0 _ rfl
    have f1 := hf 1 _ rfl
    have f2 := hf 2 _ rfl
    have f3 := hf 3 _ rfl
    have f4 := hf 4 _ rfl
    have f5 := hf 5 _ rfl
    have f6 := hf 6 _ rfl
    simp only [k1, k2, k3, k4, k5, List.drop, List.take, List.drop_succ_cons, List.take_succ_cons, List.getElem?_cons_zero, List.getElem?_cons_succ] at f0 f1 f2 f3 f4 f5 f6
    obtain ⟨n0, e0, z0, w0⟩ := DataW.trod_int Try.underlying5 f0
    obtain ⟨n1, e1, z1, w1⟩ := DataW.trod_int Try.underlying47 f1
    obtain ⟨n2, e2, z2, w2⟩ := DataW.trod_int Try.underlying47 f2
    obtain ⟨n3, e3, z3, w3⟩ := DataW.trod_int Try.underlying21 f3
    obtain ⟨n4, e4, z4, w4⟩ := DataW.trod_int Try.underlying21 f4
    obtain ⟨v5, pl, e5, r5, p5⟩ := row_u16 f5
    obtain ⟨v6, vl, e6, r6⟩ := row_bool f6
    injection e0 with e0 _
    injection e1 with e1 _
    injection e2 with e2 _
    injection e3 with e3 _
    injection e4 with e4 _
    subst e0 e1 e2 e3 e4 e5 e6
    exact ⟨⟨n0, n1, n2, n3, n4, v5, v6⟩, pl, vl, rfl, ⟨of_wf_u8 w0, of_wf_u16 w1, of_wf_u16 w2, of_wf_i32 w3, of_wf_i32 w4, p5⟩, r5, r6⟩
theorem take_made {H : Type} {enc : TypeId × Value → H} {W : World} {base : Nat} {v : Value} {d : DataW H} {p : List MemPlace}
    (hval : Value.okWide Try.prog W .any base 51 v) (h : DataW.Trod enc Try.prog W 0 (fun _ => true) true 51 v d p) :
    ∃ (m : MaV) (pl : List Int) (vl : List Bool), v = m.val ∧ MaOk m pl ∧ Row W 0 m.ps encU 1 pl ∧ Row W 0 m.vs encB 1 vl := by
  obtain ⟨cs, rfl, hcs⟩ := okWide_struct Try.underlying51 hval
  obtain ⟨fuel, hf⟩ := h
  obtain ⟨cl⟩ := cs
  simp only [Value.cells] at hf
  rw [hCM.2.2.2.2.2] at hcs
  obtain ⟨m, pl, vl, rfl, h1, h2, h3⟩ := made_cells (by simpa using hcs) hf
  exact ⟨m, pl, vl, rfl, h1, h2, h3⟩
end Go.Proofs.Ytepfknfadpkigaa
