/- Trees with addresses: what they are in memory. -/
import Derived.Test.YtggembknccbpnaaGreatPlZ
import Derived.Laws.AppendOwn
import Derived.Lib.Builder
import Derived.Lib.ItoaMem
namespace Go.Proofs.YtggembknccbpnaaGreat
open Go.RowKit
set_option maxHeartbeats 1000000
set_option linter.unusedVariables false

/-- What a node has beside its kids. -/
structure ND where
  k : Nat
  l : Int
  c : Int
  x : List UInt8
  n : Int
/-- A tree whose nodes bear the numbers of the blocks in which they lie. -/
inductive Tr where
  | node (p : Nat) (d : ND) (ks : List Tr)
def Tr.p : Tr → Nat | .node p _ _ => p
def Tr.d : Tr → ND | .node _ d _ => d
def Tr.ks : Tr → List Tr | .node _ _ ks => ks
mutual
def Tr.nodes : Tr → List Nat
  | .node p _ ks => p :: nodesL ks
def nodesL : List Tr → List Nat
  | [] => []
  | t :: r => t.nodes ++ nodesL r
end
mutual
def Tr.cnt : Tr → Nat
  | .node _ _ ks => 1 + cntL ks
def cntL : List Tr → Nat
  | [] => 0
  | t :: r => t.cnt + cntL r
end
mutual
def Tr.deep : Tr → Nat
  | .node _ _ ks => deepL ks + 1
def deepL : List Tr → Nat
  | [] => 0
  | t :: r => max t.deep (deepL r)
end
mutual
theorem nodes_len : ∀ t : Tr, t.nodes.length = t.cnt
  | .node p d ks => by simp [Tr.nodes, Tr.cnt, nodesL_len ks]; omega
theorem nodesL_len : ∀ l : List Tr, (nodesL l).length = cntL l
  | [] => rfl
  | t :: r => by simp [nodesL, cntL, nodes_len t, nodesL_len r]
end
theorem p_mem (t : Tr) : t.p ∈ t.nodes := by cases t; simp [Tr.nodes, Tr.p]
theorem cnt_pos (t : Tr) : 1 ≤ t.cnt := by cases t; simp [Tr.cnt]
theorem nodesL_app (a b : List Tr) : nodesL (a ++ b) = nodesL a ++ nodesL b := by
  induction a with
  | nil => rfl
  | cons t r ih => simp [nodesL, ih]
theorem cntL_app (a b : List Tr) : cntL (a ++ b) = cntL a + cntL b := by
  induction a with
  | nil => simp [cntL]
  | cons t r ih => simp [cntL, ih]; omega
theorem mem_nodesL (t : Tr) (l : List Tr) (h : t ∈ l) (p : Nat) (hp : p ∈ t.nodes) : p ∈ nodesL l := by
  induction l with
  | nil => cases h
  | cons a r ih =>
    simp only [nodesL, List.mem_append]
    rcases List.mem_cons.1 h with rfl | h
    · exact .inl hp
    · exact .inr (ih h)
theorem cnt_leL (t : Tr) (l : List Tr) (h : t ∈ l) : t.cnt ≤ cntL l := by
  induction l with
  | nil => cases h
  | cons a r ih =>
    simp only [cntL]
    rcases List.mem_cons.1 h with rfl | h
    · omega
    · have := ih h; omega

/-- The object of a node whose list of kids is the value v. -/
def nodeO (d : ND) (v : Value) : Obj := .cells #[.int .u8 d.k, posV d.l d.c, .string ⟨d.x.toArray⟩, .int .i64 d.n, v] 42 (0, 0)
def ptrV (p : Nat) : Value := .pointer (some ⟨p, 0, none⟩)
/-- v is a list of the pointers ps, in memory of its own, within P. -/
def Row (w : World) (P : Nat → Prop) (v : Value) (ps : List Nat) : Prop := w.ownsRow 0 26 1 v ps.length (ps.map ptrV) ∧ ∀ g, v.ownBlock = some g → P g
mutual
/-- The tree lies in w, in blocks of P. -/
def IsT (w : World) (P : Nat → Prop) : Tr → Prop
  | .node p d ks => P p ∧ (∃ v, w.heap[p]? = some (nodeO d v) ∧ Row w P v (ks.map Tr.p)) ∧ IsTL w P ks
def IsTL (w : World) (P : Nat → Prop) : List Tr → Prop
  | [] => True
  | t :: r => IsT w P t ∧ IsTL w P r
end
theorem lt_heap {w : World} {j : Nat} {o : Obj} (h : w.heap[j]? = some o) : j < w.heap.size := (Array.getElem?_eq_some_iff.1 h).1
theorem ownsRow_keep {w w' : World} {B e size : Nat} {v : Value} {n : Nat} {xs : List Value} (h : w.ownsRow B e size v n xs) (hk : ∀ g, v.ownBlock = some g → w'.heap[g]? = w.heap[g]?) : w'.ownsRow B e size v n xs := by
  obtain ⟨h1, h2⟩ := h
  refine ⟨h1, ?_⟩
  rcases h2 with h2 | ⟨g, cap, cur, e1, e2, e3, e4, e5, e6, e7⟩
  · exact .inl h2
  · exact .inr ⟨g, cap, cur, e1, e2, (hk g (by rw [e1]; rfl)).trans e3, e4, e5, e6, e7⟩
theorem Row.keep {w w' : World} {P Q : Nat → Prop} {v : Value} {ps : List Nat} (h : Row w P v ps) (hPQ : ∀ j, P j → j < w.heap.size → Q j) (hk : ∀ j, P j → j < w.heap.size → w'.heap[j]? = w.heap[j]?) : Row w' Q v ps :=
  ⟨ownsRow_keep h.1 fun g hg => hk g (h.2 g hg) (h.1.lt g hg).2, fun g hg => hPQ g (h.2 g hg) (h.1.lt g hg).2⟩
mutual
theorem IsT.keep {w w' : World} {P Q : Nat → Prop} (hPQ : ∀ j, P j → j < w.heap.size → Q j) (hk : ∀ j, P j → j < w.heap.size → w'.heap[j]? = w.heap[j]?) : ∀ {t : Tr}, IsT w P t → IsT w' Q t
  | .node p d ks, h => by
    obtain ⟨h1, ⟨v, h2, h3⟩, h4⟩ := h
    exact ⟨hPQ p h1 (lt_heap h2), ⟨v, (hk p h1 (lt_heap h2)).trans h2, h3.keep hPQ hk⟩, IsTL.keep hPQ hk h4⟩
theorem IsTL.keep {w w' : World} {P Q : Nat → Prop} (hPQ : ∀ j, P j → j < w.heap.size → Q j) (hk : ∀ j, P j → j < w.heap.size → w'.heap[j]? = w.heap[j]?) : ∀ {l : List Tr}, IsTL w P l → IsTL w' Q l
  | [], _ => trivial
  | t :: r, h => ⟨IsT.keep hPQ hk h.1, IsTL.keep hPQ hk h.2⟩
end
theorem IsT.below {w w' : World} {P : Nat → Prop} {t : Tr} (h : IsT w P t) (hb : Below w.heap.size w w') : IsT w' P t := h.keep (fun _ h _ => h) (fun j _ hj => hb.block j hj)
theorem IsTL.below {w w' : World} {P : Nat → Prop} {t : List Tr} (h : IsTL w P t) (hb : Below w.heap.size w w') : IsTL w' P t := h.keep (fun _ h _ => h) (fun j _ hj => hb.block j hj)
theorem IsTL.at {w : World} {P : Nat → Prop} : ∀ {l : List Tr}, IsTL w P l → ∀ t ∈ l, IsT w P t
  | [], _, t, ht => by cases ht
  | a :: r, h, t, ht => by
    rcases List.mem_cons.1 ht with rfl | ht
    · exact h.1
    · exact IsTL.at h.2 t ht
theorem IsTL.of {w : World} {P : Nat → Prop} : ∀ {l : List Tr}, (∀ t ∈ l, IsT w P t) → IsTL w P l
  | [], _ => trivial
  | a :: r, h => ⟨h a (by simp), IsTL.of fun t ht => h t (List.mem_cons_of_mem a ht)⟩
mutual
theorem IsT.lt {w : World} {P : Nat → Prop} : ∀ {t : Tr}, IsT w P t → ∀ p ∈ t.nodes, p < w.heap.size ∧ P p
  | .node p d ks, h, q, hq => by
    rcases List.mem_cons.1 hq with rfl | hq
    · exact ⟨lt_heap h.2.1.choose_spec.1, h.1⟩
    · exact IsTL.lt h.2.2 q hq
theorem IsTL.lt {w : World} {P : Nat → Prop} : ∀ {l : List Tr}, IsTL w P l → ∀ p ∈ nodesL l, p < w.heap.size ∧ P p
  | [], _, p, hp => by cases hp
  | t :: r, h, p, hp => by
    rcases List.mem_append.1 hp with hp | hp
    · exact IsT.lt h.1 p hp
    · exact IsTL.lt h.2 p hp
end
/-- What a walk reads of a node. -/
structure NodeAt (w : World) (p : Nat) (d : ND) (v : Value) : Prop where
  h : w.heap[p]? = some (nodeO d v)
theorem NodeAt.c0 {w : World} {p : Nat} {d : ND} {v : Value} (h : NodeAt w p d v) : w.cell? ⟨p, 0, none⟩ = some (.int .u8 d.k) := by rw [Lib.cell_of_heap h.h]; rfl
theorem NodeAt.c1 {w : World} {p : Nat} {d : ND} {v : Value} (h : NodeAt w p d v) : w.cell? ⟨p, 1, none⟩ = some (posV d.l d.c) := by rw [Lib.cell_of_heap h.h]; rfl
theorem NodeAt.c2 {w : World} {p : Nat} {d : ND} {v : Value} (h : NodeAt w p d v) : w.cell? ⟨p, 2, none⟩ = some (.string ⟨d.x.toArray⟩) := by rw [Lib.cell_of_heap h.h]; rfl
theorem NodeAt.c3 {w : World} {p : Nat} {d : ND} {v : Value} (h : NodeAt w p d v) : w.cell? ⟨p, 3, none⟩ = some (.int .i64 d.n) := by rw [Lib.cell_of_heap h.h]; rfl
theorem NodeAt.c4 {w : World} {p : Nat} {d : ND} {v : Value} (h : NodeAt w p d v) : w.cell? ⟨p, 4, none⟩ = some v := by rw [Lib.cell_of_heap h.h]; rfl
theorem NodeAt.f {w : World} {p : Nat} {d : ND} {v : Value} (h : NodeAt w p d v) (i : Nat) : w.frozen? ⟨p, i, none⟩ = false := Lib.frozen_of_heap h.h i
/-- What a walk reads of a list of pointers. -/
theorem Row.cell {w : World} {P : Nat → Prop} {v : Value} {ps : List Nat} (h : Row w P v ps) (i : Nat) (p : Nat) (hi : ps[i]? = some p) : ∃ g cap, v = .slice (some ⟨g, 0, none⟩) ps.length cap ∧ w.cell? ⟨g, i, none⟩ = some (ptrV p) := by
  obtain ⟨h1, h2⟩ := h
  obtain ⟨h3, h4⟩ := h1
  have hlt : i < ps.length := (List.getElem?_eq_some_iff.1 hi).1
  rcases h4 with ⟨_, h5⟩ | ⟨g, cap, cur, e1, e2, e3, e4, e5, e6, e7⟩
  · omega
  · refine ⟨g, cap, e1, ?_⟩
    have h8 := World.ownsRow.cells (w := w) (base := 0) (e := 26) (size := 1) (v := v) (n := ps.length) (xs := ps.map ptrV) ⟨h3, .inr ⟨g, cap, cur, e1, e2, e3, e4, e5, e6, e7⟩⟩ (g := g) (by rw [e1]; rfl) i (ptrV p) (by rw [List.getElem?_map, hi]; rfl)
    rw [Lib.add_plain, Nat.zero_add] at h8
    exact h8
theorem Row.len_le {w : World} {P : Nat → Prop} {v : Value} {ps : List Nat} (h : Row w P v ps) : ps.length ≤ 9223372036854775807 := by
  rcases h.1.2 with ⟨h1, h2⟩ | ⟨g, cap, cur, e1, e2, e3, e4, e5, e6, e7⟩
  · omega
  · unfold maxLen at e5; omega
theorem Row.form {w : World} {P : Nat → Prop} {v : Value} {ps : List Nat} (h : Row w P v ps) : ∃ q cap, v = .slice q ps.length cap := by
  rcases h.1.2 with ⟨h1, h2⟩ | ⟨g, cap, cur, e1, _⟩
  · exact ⟨none, 0, by rw [h1, h2]⟩
  · exact ⟨_, _, e1⟩
/-- A tree without addresses. -/
inductive DT where
  | node (d : ND) (ks : List DT)
mutual
def Tr.dt : Tr → DT
  | .node _ d ks => .node d (dtL ks)
def dtL : List Tr → List DT
  | [] => []
  | t :: r => t.dt :: dtL r
end
theorem dtL_app (a b : List Tr) : dtL (a ++ b) = dtL a ++ dtL b := by
  induction a with
  | nil => rfl
  | cons t r ih => simp [dtL, ih]
end Go.Proofs.YtggembknccbpnaaGreat
