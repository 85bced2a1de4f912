/- Going through a tree by a stack: what the steps of walk leave as it was. No closure stands in here. -/
import Derived.Test.YtggembknccbpnaaGreatTrK
import Derived.OneCell
import Derived.Deep.AppendLies
import Derived.Laws.OwnMore
namespace Go.Proofs.YtggembknccbpnaaGreat
open Go.RowKit
set_option maxHeartbeats 1000000
set_option linter.unusedVariables false

/-- All blocks but those of M are as they were. -/
structure Fr (M : List Nat) (w w' : World) : Prop where
  os : w'.os = w.os
  tape : w'.tape = w.tape
  output : w'.output = w.output
  size : w.heap.size ≤ w'.heap.size
  block : ∀ k, k < w.heap.size → k ∉ M → w'.heap[k]? = w.heap[k]?
theorem Fr.refl (M : List Nat) (w : World) : Fr M w w := ⟨rfl, rfl, rfl, Nat.le_refl _, fun _ _ _ => rfl⟩
theorem Fr.trans {M N : List Nat} {a b c : World} (h1 : Fr M a b) (h2 : Fr N b c) (h : ∀ j ∈ N, j ∈ M ∨ a.heap.size ≤ j) : Fr M a c :=
  ⟨h2.os.trans h1.os, h2.tape.trans h1.tape, h2.output.trans h1.output, Nat.le_trans h1.size h2.size, fun k hk hn => (h2.block k (Nat.lt_of_lt_of_le hk h1.size) (fun hm => by rcases h k hm with h | h; exact hn h; omega)).trans (h1.block k hk hn)⟩
theorem Fr.mono {M N : List Nat} {a b : World} (h : Fr M a b) (hs : ∀ j ∈ M, j ∈ N) : Fr N a b := ⟨h.os, h.tape, h.output, h.size, fun k hk hn => h.block k hk (fun hm => hn (hs k hm))⟩
theorem Fr.of_below {w w' : World} (h : Below w.heap.size w w') : Fr [] w w' := ⟨h.os, h.tape, h.output, h.size, fun k hk _ => h.block k hk⟩
theorem Fr.below {M : List Nat} {w w' : World} (h : Fr M w w') (B : Nat) (hB : ∀ j ∈ M, B ≤ j) (hw : B ≤ w.heap.size) : Below B w w' :=
  ⟨h.os, h.tape, h.output, h.size, fun k hk => h.block k (Nat.lt_of_lt_of_le hk hw) (fun hm => by have := hB k hm; omega)⟩
def obL (v : Value) : List Nat := v.ownBlock.toList
theorem mem_ob (v : Value) (j : Nat) : j ∈ obL v ↔ v.ownBlock = some j := by unfold obL; cases v.ownBlock <;> simp [eq_comm]
theorem Fr.of_grown {w w' : World} {row : Option Nat} (h : w.grownBy w' row) : Fr row.toList w w' := ⟨h.os, h.tape, h.output, h.size, fun k hk hn => h.block k hk (fun e => hn (by rw [← e]; simp))⟩
theorem Fr.set (w : World) (b o : Nat) (u : Value) : Fr [b] w (w.setCell ⟨b, o, none⟩ u) := ⟨rfl, rfl, rfl, by simp, fun k _ hk => Below.heap_setCell w ⟨b, o, none⟩ u k (fun e => hk (by simp [e]))⟩
theorem Fr.drew (w : World) : Fr [] w w.drew := ⟨rfl, rfl, rfl, Nat.le_refl _, fun _ _ _ => rfl⟩
theorem Fr.drewN (w : World) (n : Nat) : Fr [] w (w.drewN n) := ⟨rfl, rfl, rfl, Nat.le_refl _, fun _ _ _ => rfl⟩
theorem Fr.alloc (w : World) (o : Obj) : Fr [] w (w.alloc o) := Fr.of_below (below_new w o)
theorem cell_other (w : World) (b o b' o' : Nat) (v : Value) (h : b ≠ b' ∨ o ≠ o') : (w.setCell ⟨b, o, none⟩ v).cell? ⟨b', o', none⟩ = w.cell? ⟨b', o', none⟩ := by
  apply World.cell?_setCell_other
  intro e
  injection e with e1 e2 _
  omega
theorem cell_same (w : World) (b o : Nat) (u v : Value) (h : w.cell? ⟨b, o, none⟩ = some u) : (w.setCell ⟨b, o, none⟩ v).cell? ⟨b, o, none⟩ = some v := by
  apply World.cell?_setCell_same
  exact h
/-- Block b is one cell of type T, which holds v. -/
def Var (w : World) (b : Nat) (T : TypeId) (v : Value) : Prop := w.heap[b]? = some (.cells #[v] T (0, 0))
theorem Var.c {w : World} {b : Nat} {T : TypeId} {v : Value} (h : Var w b T v) : w.cell? ⟨b, 0, none⟩ = some v := by rw [Lib.cell_of_heap h]; rfl
theorem Var.f {w : World} {b : Nat} {T : TypeId} {v : Value} (h : Var w b T v) : w.frozen? ⟨b, 0, none⟩ = false := Lib.frozen_of_heap h 0
theorem Var.lt {w : World} {b : Nat} {T : TypeId} {v : Value} (h : Var w b T v) : b < w.heap.size := lt_heap h
theorem Var.keep {w w' : World} {b : Nat} {T : TypeId} {v : Value} {M : List Nat} (h : Var w b T v) (hf : Fr M w w') (hb : b ∉ M) : Var w' b T v := (hf.block b h.lt hb).trans h
theorem Var.set {w : World} {b : Nat} {T : TypeId} {v : Value} (h : Var w b T v) (u : Value) : Var (w.setCell ⟨b, 0, none⟩ u) b T u := by
  exact one_setCell h
theorem own_keep {w w' : World} {B e size : Nat} {v : Value} {n : Nat} {xs : List Value} {M : List Nat} (h : w.ownsRow B e size v n xs) (hf : Fr M w w') (hv : ∀ j ∈ obL v, j ∉ M) : w'.ownsRow B e size v n xs :=
  ownsRow_keep h fun g hg => hf.block g (h.lt g hg).2 (hv g ((mem_ob v g).2 hg))
theorem Row.frame {w w' : World} {P : Nat → Prop} {v : Value} {ps : List Nat} {N : List Nat} (h : Row w P v ps) (hf : Fr N w w') (hv : ∀ j ∈ obL v, j ∉ N) : Row w' P v ps := ⟨own_keep h.1 hf hv, h.2⟩
theorem Row.base {w : World} {B : Nat} {v : Value} {ps : List Nat} (h : Row w (B ≤ ·) v ps) : ∀ j ∈ obL v, B ≤ j ∧ j < w.heap.size := fun j hj => ⟨h.2 j ((mem_ob v j).1 hj), (h.1.lt j ((mem_ob v j).1 hj)).2⟩
theorem own_cap {w : World} {B e size : Nat} {a : Addr} {cap n : Nat} {xs : List Value} (h : w.ownsRow B e size (.slice (some a) n cap) n xs) : n ≤ cap ∧ cap ≤ 9223372036854775807 := by
  rcases h.2 with ⟨h3, h4⟩ | ⟨g, cap', cur, e1, e2, e3, e4, e5, e6, e7⟩
  · cases h3
  · injection e1 with e1 _ e8
    subst e8
    unfold maxLen at e5
    omega
/-- A list that is cut at its end. -/
theorem own_cut {w : World} {B e size : Nat} {p : Option Addr} {cap n m : Nat} {xs : List Value} (h : w.ownsRow B e size (.slice p n cap) n xs) (hp : p ≠ none ∨ n ≠ 0) (hm : m ≤ n) : w.ownsRow B e size (.slice p m cap) m (xs.take (m * size)) := by
  obtain ⟨h1, h2⟩ := h
  refine ⟨by rw [List.length_take, h1]; exact Nat.min_eq_left (Nat.mul_le_mul_right _ hm), ?_⟩
  rcases h2 with ⟨h3, h4⟩ | ⟨g, cap', cur, e1, e2, e3, e4, e5, e6, e7⟩
  · injection h3 with h3 h5 h6
    rcases hp with hp | hp
    · exact absurd h3 hp
    · exact absurd h4 hp
  · injection e1 with e1 _ e8
    subst e1; subst e8
    refine .inr ⟨g, cap, cur, rfl, e2, e3, by omega, e5, e6, ?_⟩
    rw [← e7, List.take_take, Nat.min_eq_left (Nat.mul_le_mul_right _ hm)]
theorem infoP : (Tryz.prog.info? 26).map (fun i => (i.zero, i.size, i.bytes)) = some (some (.pointer none), 1, 8) := by kernel_rfl
theorem new1 (w : World) (u : Value) (T : TypeId) : ∀ j v, [u][j]? = some v → (w.alloc (.cells #[u] T)).cell? ((⟨w.heap.size, 0, none⟩ : Addr).add j) = some v := by
  intro j v hj
  match j, hj with
  | 0, hj => simp at hj; subst hj; simp [Addr.add]
theorem one1 (p : Nat) : ∀ u ∈ [ptrV p], u.oneCell' = true := fun u hu => by
  simp at hu; subst hu; rfl
end Go.Proofs.YtggembknccbpnaaGreat
