/- A map of function values that a call makes, fills and looks up once: laws at the operations. No program stands in here. -/
import Derived.Maps.Own
namespace Go.Proofs.Ytcecjjjehhjldaa
open Go Go.Maps

/-- How a function value that captures nothing reads here: as its number; nil as -1. -/
def fnElem {H : Type} : Value → Option (DataW H × List MemPlace)
  | .func (.func f) p c => if p.size = 0 ∧ c.size = 0 then some (.lit (.int .i64 (f : Int)), []) else none
  | .nilFunc => some (.lit (.int .i64 (-1)), [])
  | _ => none

theorem fnElem_inv {H : Type} {v : Value} {f : Nat} {ps : List MemPlace} (h : fnElem (H := H) v = some (.lit (.int .i64 (f : Int)), ps)) : v = .func (.func f) #[] #[] := by
  unfold fnElem at h
  split at h
  · rename_i g p c
    split at h
    · rename_i hs
      simp only [Option.some.injEq, Prod.mk.injEq, DataW.lit.injEq, Lit.int.injEq, true_and] at h
      have hf : g = f := by obtain ⟨h1, _⟩ := h; exact Int.ofNat.inj h1
      subst hf
      rw [Array.eq_empty_of_size_eq_zero hs.1, Array.eq_empty_of_size_eq_zero hs.2]
    · cases h
  · simp only [Option.some.injEq, Prod.mk.injEq, DataW.lit.injEq, Lit.int.injEq, true_and] at h
    obtain ⟨h1, _⟩ := h
    exact absurd h1 (by omega)
  · cases h

theorem fnElem_nil {H : Type} {v : Value} {ps : List MemPlace} (h : fnElem (H := H) v = some (.lit (.int .i64 (-1)), ps)) : v = .nilFunc := by
  unfold fnElem at h
  split at h
  · split at h
    · simp only [Option.some.injEq, Prod.mk.injEq, DataW.lit.injEq, Lit.int.injEq, true_and] at h
      have := h.1
      omega
    · cases h
  · rfl
  · cases h

theorem fnElem_fn {H : Type} (f : Nat) : fnElem (H := H) (.func (.func f) #[] #[]) = some (.lit (.int .i64 (f : Int)), []) := by simp [fnElem]

/-- A row of a map's literal, 'k: f', at the operation. -/
theorem wpList_insert_fn {H : Type} {P : Program} (w : World) {ops : Array Oper} {rest : List Oper} {o : Oper} {a : Act} {Q : Exit → Act → World → Prop}
    (hg : o.guard = none) (m x v : Operand) (t : TypeId) (hop : o.op = Op.insert t m x v)
    (k e : TypeId) (K : Keyed P k) (ht : P.underlying t = some (.map k e)) (b n : Nat) (D : DataW H)
    (hm : a.eval m = .map (some b)) (hown : w.ownsMap P k fnElem b n D) (hn : n < maxLen) (key : Value) (f : Nat) (kl : Lit) (hx : a.eval x = key) (hv : a.eval v = .func (.func f) #[] #[]) (hkey : keyOf P k key = some kl)
    (hK : ∀ w', w'.ownsMap P k fnElem b (n + 1) (D.put kl (.lit (.int .i64 (f : Int)))) → w.grownBy w' (some b) → wpList P ops Q rest (a.put o.dst undef) w') :
    wpList P ops Q (o :: rest) a w := by
  refine wpList_plain hg fun K' hK' => ?_
  obtain ⟨w', hrun, r1, r2⟩ := hown.update K ht hn hkey (fnElem_fn f)
  unfold Oper.wp
  simp [execOp, hop, hm, hx, hv, hrun, Result.andThen]
  exact hK' _ _ (hK w' r1 r2)

/-- The look-up behind it. -/
theorem wpList_lookup_fn {H : Type} {P : Program} (w : World) {ops : Array Oper} {rest : List Oper} {o : Oper} {a : Act} {Q : Exit → Act → World → Prop}
    (hg : o.guard = none) (m x : Operand) (t : TypeId) (hop : o.op = Op.lookup t m x false)
    (k e : TypeId) (K : Keyed P k) (ht : P.underlying t = some (.map k e)) (hz : (zeroValue e).run P w = .ok .nilFunc w) (b n : Nat) (D : DataW H)
    (hm : a.eval m = .map (some b)) (hown : w.ownsMap P k fnElem b n D) (key : Value) (kl : Lit) (hx : a.eval x = key) (hkey : keyOf P k key = some kl)
    (hK : ∀ (v : Value) ps, fnElem (H := H) v = some (D.atKey kl (.lit (.int .i64 (-1))), ps) → wpList P ops Q rest (a.put o.dst v) w) :
    wpList P ops Q (o :: rest) a w := by
  refine wpList_plain hg fun K' hK' => ?_
  obtain ⟨v, ps, hrun, hv⟩ := hown.lookup K ht hz (zd := .lit (.int .i64 (-1))) (zp := []) rfl hkey
  unfold Oper.wp
  simp [execOp, hop, hm, hx, hrun, Result.andThen]
  exact hK' _ _ (hK v ps hv)
end Go.Proofs.Ytcecjjjehhjldaa
