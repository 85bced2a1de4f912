/- A list of what types are made of, that came in; TypesTell, whatever is handed in. -/
import Derived.Test.YtepfknfadpkigaaRwM
import Derived.Test.YtepfknfadpkigaaTyV
namespace Go.Proofs.Ytepfknfadpkigaa
open Go Go.ChangeShapes Go.WideShapes Go.ChangeAt Go.RowKit
set_option maxHeartbeats 1000000
set_option maxRecDepth 100000
set_option linter.unusedVariables false
set_option linter.unusedSimpArgs false

theorem plain_add (g o n : Nat) : (⟨g, o, none⟩ : Addr).add n = ⟨g, o + n, none⟩ := by first | rfl | rw [Addr.add_mid] | simp [Addr.add]
instance : Inhabited MaV := ⟨⟨0, 0, 0, 0, 0, .no, .no⟩⟩
theorem take_cell {H : Type} {enc : TypeId × Value → H} {W : World} {n : Nat} {a : Addr} {cs : List Value} {D : DataW H} {Pl : List MemPlace} (h1 : W.cells? 0 a 7 = some cs)
    (h2 : DataW.trod enc Try.prog W 0 (fun _ => true) true n 51 cs = some (D, Pl)) :
    ∃ (x : MaV × List Int × List Bool) (g o : Nat), a = ⟨g, o, none⟩ ∧ W.rangeAt g o (encM x.1) ∧ MaOk x.1 x.2.1 ∧ Row W 0 x.1.ps encU 1 x.2.1 ∧ Row W 0 x.1.vs encB 1 x.2.2 := by
  obtain ⟨_, hlen, hat⟩ := World.cells?_some h1
  obtain ⟨m, pl, vl, rfl, r1, r2, r3⟩ := made_cells hlen h2
  obtain ⟨g, o, sp⟩ := a
  have hs : sp = none := by
    have := hat 0 (by decide)
    simpa [Addr.add] using World.cell?_spot this
  subst hs
  simp only [plain_add] at hat
  refine ⟨(m, pl, vl), g, o, rfl, ?_, r1, r2, r3⟩
  intro j u hu
  match j, hu with
  | 0, hu =>
    injection hu with hu
    subst hu
    simpa using hat 0 (by decide)
  | 1, hu =>
    injection hu with hu
    subst hu
    simpa using hat 1 (by decide)
  | 2, hu =>
    injection hu with hu
    subst hu
    simpa using hat 2 (by decide)
  | 3, hu =>
    injection hu with hu
    subst hu
    simpa using hat 3 (by decide)
  | 4, hu =>
    injection hu with hu
    subst hu
    simpa using hat 4 (by decide)
  | 5, hu =>
    injection hu with hu
    subst hu
    simpa using hat 5 (by decide)
  | 6, hu =>
    injection hu with hu
    subst hu
    simpa using hat 6 (by decide)
  | j + 7, hu => simp [encM] at hu
theorem take_mades {H : Type} {enc : TypeId × Value → H} {W : World} {base : Nat} {v : Value} {d : DataW H} {p : List MemPlace}
    (hval : Value.okWide Try.prog W .any base 22 v) (h : DataW.Trod enc Try.prog W 0 (fun _ => true) true 22 v d p) :
    ∃ (u : Sl) (l : List (MaV × List Int × List Bool)), v = .slice u.p u.n u.c ∧ Mades W u l := by
  obtain ⟨a0, len, cap, rfl⟩ := okWide_slice Try.underlying22 hval
  obtain ⟨fuel, hf⟩ := h
  rcases Deep.open_slice Try.underlying22 hf with ⟨hcs, hx⟩ | ⟨a, len', cap', m, n, D, Pl, hcs, _, hl, hm, hmm, hx, hi⟩
  · simp [Value.cells] at hcs
    obtain ⟨rfl, rfl, rfl⟩ := hcs
    exact ⟨.no, [], rfl, row_nil _ _ _ _, fun x hx => by cases hx⟩
  · simp [Value.cells] at hcs
    obtain ⟨rfl, rfl, rfl⟩ := hcs
    simp only [if_true] at hmm
    subst hmm
    rw [hCM.2.2.2.2.2] at hi
    obtain ⟨f, hfs⟩ := Deep.choose_lt (α := MaV × List Int × List Bool) (n := len) (p := fun i x => ∃ g o, a.add (i * 7) = ⟨g, o, none⟩ ∧ W.rangeAt g o (encM x.1) ∧ MaOk x.1 x.2.1 ∧ Row W 0 x.1.ps encU 1 x.2.1 ∧ Row W 0 x.1.vs encB 1 x.2.2) (fun i hil => by
      obtain ⟨cs', h1, h2⟩ := hi i (by omega)
      exact take_cell h1 h2)
    refine ⟨⟨some a, len, m⟩, (List.range len).map f, rfl, ⟨by simp, fun hne => ?_⟩, fun x hx => ?_⟩
    · have hpos : 0 < len := by
        rcases Nat.eq_zero_or_pos len with h0 | h0
        · subst h0; exact absurd rfl hne
        · exact h0
      obtain ⟨g0, o0, ha0, hc0, _⟩ := hfs 0 hpos
      have hae : a = ⟨g0, o0, none⟩ := by simpa [Addr.add] using ha0
      subst hae
      refine ⟨g0, o0, rfl, Nat.zero_le _, World.block_lt_of_cell? _ _ (hc0 0 _ rfl), fun i x hx => ?_, fun h => absurd h (Nat.lt_irrefl _)⟩
      rw [List.getElem?_map, List.getElem?_map] at hx
      obtain ⟨y, hy, rfl⟩ := Option.map_eq_some_iff.1 hx
      obtain ⟨i', hi1, rfl⟩ := Option.map_eq_some_iff.1 hy
      obtain ⟨hil, rfl⟩ := List.getElem?_eq_some_iff.1 hi1
      simp only [List.length_range] at hil
      simp only [List.getElem_range]
      obtain ⟨g, o, ha, c1, _⟩ := hfs i hil
      rw [plain_add] at ha
      injection ha with e1 e2 _
      subst e1 e2
      exact c1
    · obtain ⟨i, hi, rfl⟩ := List.mem_map.1 hx
      obtain ⟨_, _, _, _, h⟩ := hfs i (List.mem_range.1 hi)
      exact h
theorem ttell_end (v : Sl) (ls : List (MaV × List Int × List Bool)) (i : Int) (w : World) (h : Mades w v ls) : Calls Try.prog 3 #[.slice v.p v.n v.c, .int .i64 i] w fun e w' => e = .returned (.bool true) ∧ Bl w w' := by
  have hvn := h.row.n
  simp only [List.length_map] at hvn
  rcases Nat.lt_or_ge 40 v.n with hl | hl
  · exact ttell_long v i hl w
  · exact ttell_in v ls i w h (by omega)
end Go.Proofs.Ytepfknfadpkigaa
