/- Several texts in one. -/
import Derived.Test.YtbfclibjnanlgaaGreatDoorPwT
import Derived.Test.YtbfclibjnanlgaaGreatDoorGrB
import Derived.Deep.Fields
import Derived.WideKeyArgs
import Derived.ChangeOld
import Derived.SizedLaws
/- Pieces that came in, read, and read again behind the call. -/
namespace Go.Proofs.YtbfclibjnanlgaaGreatDoor
open Go Go.ChangeShapes Go.WideShapes Go.ChangeAt Go.RowKit
set_option maxRecDepth 100000
set_option linter.unusedVariables false
set_option linter.unusedSimpArgs false
set_option linter.unnecessarySimpa false

theorem returns_sized {H : Type} {enc : TypeId × Value → H} {a : Assume} {C : Checked} {os : Os} {f : FuncId} {fn : Func} {s : ChangeSpec} {conds : List PathCond} {apart fresh handsOn again : Bool} {X : World → Array Value → Prop}
    (hX : ∀ (w w' : World) (args : Array Value), w.heap = w'.heap → X w args → X w' args)
    (own : ownKnob C.prog.godebug = none) (started : os.Started) (noInit : C.prog.inits.idxOf? f = none) (hfn : C.prog.funcs[f]? = some fn)
    (witness : ∃ (w : World) (tape : Tape) (i : Input), w.os = os ∧ (w.forCall tape i).Shaped C.prog ∧ i.vars = [] ∧ Input.okWide C.prog (w.forCall tape i) .any w.heap.size f i ∧
      ((s.pre enc C.prog fn conds apart (w.forCall tape i).memory i.args ∧ X (w.forCall tape i).memory i.args) ∧ sizedMet enc C.prog fn (OpenSpec.ofChange s) apart (w.forCall tape i).memory i.args) ∧ a.holds C.prog (lone (Frame.enter C.prog f i.args .normal) [] (w.forCall tape i)))
    (contract : ∀ (W : World) (base : Nat) (args : Array Value) (ds gs : List (DataW H)) (before : List MemPlace),
      (∀ (j : Nat) t v, fn.params[j]? = some t → args[j]? = some v → Value.okWide C.prog W .any base t v) →
      DataW.Whole enc C.prog fn.params.toList s.vars apart W args.toList ds gs before →
      (∃ ts gs', (DataW.weightsEach C.prog (fn.params.toList ++ ts) (ds ++ gs')).all (· ≤ reachBytes) = true) →
      X W args → W.ShapedOpen C.prog →
      Calls C.prog f args W fun e W' => ∃ v, e = .returned v ∧ s.post enc C.prog fn apart fresh handsOn again W args v W') :
    ReturnsInHanded a C os f .any (fun w args => (s.pre enc C.prog fn conds apart w args ∧ X w args) ∧ sizedMet enc C.prog fn (OpenSpec.ofChange s) apart w args) (s.post enc C.prog fn apart fresh handsOn again) := by
  refine returnsInHanded_of_calls own started noInit witness ?_
  intro w tape i _ hsh _ hok hpre hholds
  obtain ⟨_, _, _, fn', hfn', _, _, _, _, hval⟩ := hok
  have e : fn' = fn := Option.some.inj (hfn'.symm.trans hfn)
  subst e
  obtain ⟨⟨⟨ds, gs, before, hw, hc⟩, hx⟩, hz⟩ := hpre
  have hw' := DataW.Whole.of_heap (w' := w.forCall tape i) (by rfl) hw
  refine (contract (w.forCall tape i) w.heap.size i.args ds gs before hval hw' ⟨_, gs, hz.weights hw⟩ (hX _ _ _ (by rfl) hx) hsh).mono fun e W' ⟨v, he, hp⟩ => ?_
  subst he
  exact ChangeSpec.post_blind hp

theorem laidOut : laidOutB Tryz.prog = true := by kernel_rfl
/-- What came in is read again behind the call. -/
theorem again {H : Type} {enc : TypeId × Value → H} {t : TypeId} (hr : Tryz.prog.readableRec t = true) (hrow : t < Tryz.prog.types.size) {W W' : World} {v : Value} {d : DataW H} {p : List MemPlace}
    (h : DataW.Trod enc Tryz.prog W 0 (fun _ => true) true t v d p) (hb : Below W.heap.size W W') : DataW.Trod enc Tryz.prog W' 0 (fun b => decide (b < W.heap.size)) true t v d p := by
  have hlt : ∀ q ∈ p, q.block < W.heap.size := by
    obtain ⟨n, hn⟩ := h
    exact fun q hq => DataW.trod_lt n _ _ _ hn q hq
  exact WideElems.Trod_stays laidOut hr hrow h (fun q hq => hb.same (hlt q hq)) (fun q hq => by simpa using hlt q hq)

theorem weights_mem {H : Type} {P : Program} {e : TypeId} {d : DataW H} {n : Nat} : ∀ {l : List (DataW H)}, d ∈ l → n ∈ d.weights P e → n ∈ DataW.weightsAll P e l
  | [], h, _ => by cases h
  | x :: r, h, hn => by
    simp only [DataW.weightsAll, List.mem_append]
    rcases List.mem_cons.1 h with rfl | h
    · exact .inl hn
    · exact .inr (weights_mem h hn)

theorem u8_nat {n : Int} (h : (Lit.int .u8 n).wf = true) : ∃ k : Nat, n = k ∧ k ≤ 255 := by
  obtain ⟨h1, h2⟩ := of_wf_u8 h
  exact ⟨n.toNat, by omega, by omega⟩
theorem hC1 : Tryz.prog.cellsOf 5 = 1 ∧ Tryz.prog.cellsOf 9 = 1 ∧ Tryz.prog.cellsOf 2 = 1 ∧ Tryz.prog.cellsOf 33 = 6 := ⟨by kernel_rfl, by kernel_rfl, by kernel_rfl, by kernel_rfl⟩
theorem take_piece {H : Type} {enc : TypeId × Value → H} {W : World} {n : Nat} {a : Addr} {cs : List Value} {D : DataW H} {Pl : List MemPlace} (h1 : W.cells? 0 a 6 = some cs)
    (h2 : DataW.trod enc Tryz.prog W 0 (fun _ => true) true n 33 cs = some (D, Pl)) :
    ∃ (p : PC) (g o : Nat), a = ⟨g, o, none⟩ ∧ PcAt W g o p ∧ p.k ≤ 255 ∧ p.l ≤ 255 ∧ p.c ≤ 255 ∧ -9223372036854775808 ≤ p.n ∧ p.n ≤ 9223372036854775807 ∧ p.m ≤ 255 ∧ p.x.length ∈ D.weights Tryz.prog 33 := by
  obtain ⟨_, hlen, hat⟩ := World.cells?_some h1
  obtain ⟨xs, m, _, hx, _, hxl, hf⟩ := DataW.trod_struct Tryz.underlying33 h2
  obtain ⟨k1, k2, k3, _⟩ := hC1
  match cs, hlen, xs, hxl with
  | [c0, c1, c2, c3, c4, c5], _, [y0, y1, y2, y3, y4, y5], _ =>
    have f0 := hf 0 _ rfl
    have f1 := hf 1 _ rfl
    have f2 := hf 2 _ rfl
    have f3 := hf 3 _ rfl
    have f4 := hf 4 _ rfl
    have f5 := hf 5 _ rfl
    simp only [k1, k2, k3, List.drop, List.take, List.drop_succ_cons, List.take_succ_cons, List.getElem?_cons_zero, List.getElem?_cons_succ] at f0 f1 f2 f3 f4 f5
    obtain ⟨n0, e0, z0, w0⟩ := DataW.trod_int Tryz.underlying5 f0
    obtain ⟨n1, e1, z1, w1⟩ := DataW.trod_int Tryz.underlying5 f1
    obtain ⟨n2, e2, z2, w2⟩ := DataW.trod_int Tryz.underlying5 f2
    obtain ⟨s, e3, z3, w3⟩ := DataW.trod_string Tryz.underlying9 f3
    obtain ⟨n4, e4, z4, w4⟩ := DataW.trod_int Tryz.underlying2 f4
    obtain ⟨n5, e5, z5, w5⟩ := DataW.trod_int Tryz.underlying5 f5
    obtain ⟨m0, rfl, b0⟩ := u8_nat w0
    obtain ⟨m1, rfl, b1⟩ := u8_nat w1
    obtain ⟨m2, rfl, b2⟩ := u8_nat w2
    obtain ⟨m5, rfl, b5⟩ := u8_nat w5
    obtain ⟨l4, u4⟩ := of_wf_i64 w4
    injection e0 with e0 _
    injection e1 with e1 _
    injection e2 with e2 _
    injection e3 with e3 _
    injection e4 with e4 _
    injection e5 with e5 _
    subst e0 e1 e2 e3 e4 e5
    obtain ⟨g, o, sp⟩ := a
    have hs : sp = none := by
      have := hat 0 (by decide)
      simpa [Addr.add] using World.cell?_spot this
    subst hs
    simp only [add_plain] at hat
    refine ⟨⟨m0, m1, m2, s.data.toList, n4, m5⟩, g, o, rfl, ⟨?_, ?_, ?_, ?_, ?_, ?_⟩, b0, b1, b2, l4, u4, b5, ?_⟩
    · simpa using hat 0 (by decide)
    · simpa using hat 1 (by decide)
    · simpa using hat 2 (by decide)
    · simpa using hat 3 (by decide)
    · simpa using hat 4 (by decide)
    · simpa using hat 5 (by decide)
    · simp only [Prod.mk.injEq] at hx
      rw [hx.1]
      simp [DataW.weights, DataW.weightsEach, Tryz.underlying33, z0, z1, z2, z3, z4, z5]
instance : Inhabited PC := ⟨⟨0, 0, 0, [], 0, 0⟩⟩
theorem take_pieces {H : Type} {enc : TypeId × Value → H} {W : World} {base : Nat} {v : Value} {d : DataW H} {p : List MemPlace} {ts : List TypeId} {ds : List (DataW H)} {j : Nat}
    (hval : Value.okWide Tryz.prog W .any base 22 v) (h : DataW.Trod enc Tryz.prog W 0 (fun _ => true) true 22 v d p)
    (hz : (DataW.weightsEach Tryz.prog ts ds).all (· ≤ reachBytes) = true) (hts : ts[j]? = some 22) (hds : ds[j]? = some d) :
    ∃ ps : List PC, PcL W v ps ∧ ∀ x ∈ ps, OkC x := by
  obtain ⟨a0, len, cap, rfl⟩ := okWide_slice Tryz.underlying22 hval
  obtain ⟨fuel, hf⟩ := h
  rcases Deep.open_slice Tryz.underlying22 hf with ⟨hcs, hx⟩ | ⟨a, len', cap', m, n, D, Pl, hcs, _, hl, hm, hmm, hx, hi⟩
  · simp [Value.cells] at hcs
    obtain ⟨rfl, rfl, rfl⟩ := hcs
    exact ⟨[], ⟨none, 0, rfl, Nat.le_refl _, by decide, fun i x hi => by simp at hi⟩, fun x hx => by cases hx⟩
  · simp [Value.cells] at hcs
    obtain ⟨rfl, rfl, rfl⟩ := hcs
    simp only [if_true] at hmm
    subst hmm
    rw [hC1.2.2.2] at hi
    simp only [Prod.mk.injEq] at hx
    obtain ⟨f, hfs⟩ := Deep.choose_lt (α := PC) (n := len) (p := fun i p => ∃ g o, a.add (i * 6) = ⟨g, o, none⟩ ∧ PcAt W g o p ∧ OkC p) (fun i hil => by
      obtain ⟨cs', h1, h2⟩ := hi i (by omega)
      obtain ⟨q, g, o, ha, hp, b0, b1, b2, l4, u4, b5, hw⟩ := take_piece h1 h2
      refine ⟨q, g, o, ha, hp, ⟨b0, b1, b2, l4, u4, b5, ?_⟩⟩
      have hmem : q.x.length ∈ d.weights Tryz.prog 22 := by
        rw [hx.1]
        simp only [DataW.weights, Tryz.underlying22, List.mem_cons, List.mem_append]
        exact .inr (.inl (weights_mem (List.mem_map.2 ⟨i, List.mem_range.2 hil, rfl⟩) hw))
      have := List.all_eq_true.1 hz _ (DataW.weights_mem_each hts hds _ hmem)
      have h2 := reachBytes_lt
      simp at this
      omega)
    refine ⟨(List.range len).map f, ⟨some a, _, by simp, by simpa using hl, hm, fun i x hi => ?_⟩, fun x hx => ?_⟩
    · rw [List.getElem?_map] at hi
      obtain ⟨i', hi1, rfl⟩ := Option.map_eq_some_iff.1 hi
      obtain ⟨hil, rfl⟩ := List.getElem?_eq_some_iff.1 hi1
      simp only [List.length_range] at hil
      simp only [List.getElem_range]
      obtain ⟨g0, o0, ha0, _, _⟩ := hfs 0 (by omega)
      have hae : a = ⟨g0, o0, none⟩ := by simpa [Addr.add] using ha0
      subst hae
      obtain ⟨g, o, ha, hp, _⟩ := hfs i hil
      rw [add_plain] at ha
      injection ha with e1 e2 _
      subst e1 e2
      exact ⟨_, _, rfl, hp⟩
    · obtain ⟨i, hi, rfl⟩ := List.mem_map.1 hx
      obtain ⟨_, _, _, _, h⟩ := hfs i (List.mem_range.1 hi)
      exact h
end Go.Proofs.YtbfclibjnanlgaaGreatDoor
