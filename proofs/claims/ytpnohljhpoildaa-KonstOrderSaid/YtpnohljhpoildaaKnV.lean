/- KonstOrder: which questions are answered. -/
import Derived.Test.YtpnohljhpoildaaKnR
import Derived.Test.YtpnohljhpoildaaHdL
namespace Go.Proofs.Ytpnohljhpoildaa
open Go.RowKit
set_option maxHeartbeats 1000000
set_option maxRecDepth 100000
set_option linter.unusedVariables false
set_option linter.unusedSimpArgs false

theorem ord_rows {x y : TV} (h : ordP x y = true) : ∃ l, rowsP x y = Tn.tq :: l := by
  unfold rowsP
  rw [if_pos h]
  exact ⟨_, rfl⟩
theorem ord_sym (x y : TV) : ordP y x = ordP x y := by
  unfold ordP
  rw [Bool.and_comm y.let x.let, Bool.and_comm y.num x.num, show (y.s == x.s) = (x.s == y.s) from Bool.beq_comm, show (y.t == x.t) = (x.t == y.t) from Bool.beq_comm]
theorem both_sym (x y : TV) (k : Int) : bothP y x k = bothP x y k := by unfold bothP; rw [Bool.and_comm]
theorem does_of (o : List UInt8) (ho : opsL.contains o = true) (a b : PV) : doesP o a b = pickD (firstT (rowsP (tellP a) (tellP b)) o) (tellP a).n (tellP b).n := by
  unfold doesP; rw [if_pos ho]; cases firstT (rowsP (tellP a) (tellP b)) o <;> rfl
theorem first_q {o : List UInt8} {g : Do2} (l : List Tn) (h : (tab .tq).lookup o = some g) : firstT (Tn.tq :: l) o = some g := by
  show (match (tab .tq).lookup o with | some g => some g | none => firstT l o) = _
  rw [h]
theorem ord_res {o : List UInt8} {g : Do2} (ho : opsL.contains o = true) (hg : (tab .tq).lookup o = some g) (a b : PV) (h : ordP (tellP a) (tellP b) = true) : doesP o a b = g (tellP a).n (tellP b).n := by
  obtain ⟨l, hl⟩ := ord_rows h
  rw [does_of o ho, hl, first_q l hg]
  rfl
theorem tell_t (a : PV) (h : (tellP a).s = 1 ∨ (tellP a).s = 3) : (tellP a).t = 0 := by
  cases a with
  | whole n =>
    cases hw : inW n
    · rw [show tellP (.whole n) = ⟨0, 0, nilS, 0⟩ from if_neg (by rw [hw]; simp)]
    · rw [show tellP (.whole n) = ⟨1, 0, nilS, n⟩ from if_pos hw]
  | item t n => rcases h with h | h <;> cases h
  | none => rfl
  | letter n => rfl
  | truth b => rfl
  | bits n => rfl
  | str s => rfl
  | null => rfl
  | num n => rfl
theorem both_ord (a b : PV) (k : Int) (hk : k = 1 ∨ k = 3) (h : bothP (tellP a) (tellP b) k = true) : ordP (tellP a) (tellP b) = true := by
  unfold bothP at h
  simp only [Bool.and_eq_true, beq_iff_eq] at h
  have t1 := tell_t a (by rw [h.1]; exact hk)
  have t2 := tell_t b (by rw [h.2]; exact hk)
  unfold ordP TV.num
  rw [h.1, h.2, t1, t2]
  rcases hk with rfl | rfl <;> simp
/-- Which rows there are where none asks which one is less. -/
theorem rows_not (a b : PV) (h : ordP (tellP a) (tellP b) = false) : rowsP (tellP a) (tellP b) = if bothP (tellP a) (tellP b) 4 = true then [Tn.ts, Tn.te] else if bothP (tellP a) (tellP b) 7 = true then [Tn.te] else if ((tellP a).num && (tellP b).s == 4) = true then [Tn.tm] else [] := by
  have h1 : bothP (tellP a) (tellP b) 1 = false := by
    cases hb : bothP (tellP a) (tellP b) 1
    · rfl
    · rw [both_ord a b 1 (.inl rfl) hb] at h; cases h
  have h3 : bothP (tellP a) (tellP b) 3 = false := by
    cases hb : bothP (tellP a) (tellP b) 3
    · rfl
    · rw [both_ord a b 3 (.inr rfl) hb] at h; cases h
  unfold rowsP
  rw [if_neg (by rw [h]; simp), h1, h3]
  rfl
theorem same_is (c : Bool) (w : World) : Calls Try.prog 15 #[.iface 48 (.bool c), .agg #[.int .i64 3, .int .i64 1, .string ⟨#[]⟩, .int .i64 0]] w fun e w' => e = .returned (.bool c) ∧ Bl w w' := by
  have h := same_any (.truth c) trivial ⟨3, 1, nilS, 0⟩ w
  have e1 : (lookP (.truth c)).eq ⟨3, 1, nilS, 0⟩ = c := by
    cases c
    · rfl
    · rw [show lookP (.truth true) = ⟨3, 1, nilS, 0⟩ from rfl, LV.eq_self]
  rw [e1] at h
  exact h
/-- A struct of four in a variable. -/
def Four (w : World) (b : Nat) (u v x y : Value) (t : TypeId) : Prop := w.heap[b]? = some (.cells #[u, v, x, y] t)
theorem Four.on {w w' : World} {b : Nat} {u v x y : Value} {t : TypeId} (h : Four w b u v x y t) (k : Bl w w') : Four w' b u v x y t := (k.block b (lt_at h)).trans h
theorem Four.new (w : World) (u v x y : Value) (t : TypeId) : Four (w.alloc (.cells #[u, v, x, y] t)) w.heap.size u v x y t := by
  show (w.heap.push _)[w.heap.size]? = _
  simp
theorem Four.c {w : World} {b : Nat} {u v x y : Value} {t : TypeId} (h : Four w b u v x y t) : w.cell? ⟨b, 0, none⟩ = some u ∧ w.cell? ⟨b, 1, none⟩ = some v ∧ w.cell? ⟨b, 2, none⟩ = some x ∧ w.cell? ⟨b, 3, none⟩ = some y := by
  unfold Four at h
  refine ⟨?_, ?_, ?_, ?_⟩ <;> simp [World.cell?, h]
end Go.Proofs.Ytpnohljhpoildaa
