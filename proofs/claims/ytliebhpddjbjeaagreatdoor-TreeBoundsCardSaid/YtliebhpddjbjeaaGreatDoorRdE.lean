/- tree.Read's closure, walked. -/
import Derived.Test.YtliebhpddjbjeaaGreatDoorRdD
import Derived.Deep.LoopGhost
namespace Go.Proofs.YtliebhpddjbjeaaGreatDoor
open Go.RowKit
set_option maxHeartbeats 4000000
set_option maxRecDepth 100000
set_option linter.unusedVariables false
set_option linter.unusedSimpArgs false

/-- What Read's closure holds: what is left, how many nodes there were, itself. -/
structure RX (w0 : World) (b m f : Nat) (s : List UInt8) (many : Nat) (w : World) : Prop where
  rc : RC w0 b s w
  mv : Var w m 3 (.int .i64 many)
  fv : Var w f 93 (.func (.func 62) #[] #[.pointer (some ⟨b, 0, none⟩), .pointer (some ⟨m, 0, none⟩), .pointer (some ⟨f, 0, none⟩)])
  lm : w0.heap.size ≤ m
  lf : w0.heap.size ≤ f
  ne : b ≠ m ∧ b ≠ f ∧ m ≠ f
theorem RX.lt {w0 w : World} {b m f : Nat} {s : List UInt8} {many : Nat} (h : RX w0 b m f s many w) : b < w.heap.size ∧ m < w.heap.size ∧ f < w.heap.size := ⟨lt_heap h.rc.rv, h.mv.lt, h.fv.lt⟩
theorem RX.take {w0 w w' : World} {b m f : Nat} {s r : List UInt8} {many : Nat} (h : RX w0 b m f s many w) (hr : RV b r w') (hF : Fr [b] w w') : RX w0 b m f r many w' :=
  ⟨h.rc.on hr hF, h.mv.keep hF (by simp; exact fun e => h.ne.1 e.symm), h.fv.keep hF (by simp; exact fun e => h.ne.2.1 e.symm), h.lm, h.lf, h.ne⟩
theorem RX.more {w0 w : World} {b m f : Nat} {s : List UInt8} {many k : Nat} (h : RX w0 b m f s many w) : RX w0 b m f s k (w.setCell ⟨m, 0, none⟩ (.int .i64 k)) := by
  have hF := Fr.set w m 0 (.int .i64 k)
  refine ⟨⟨h.rc.e, h.rc.lb, h.rc.bl.trans (hF.below _ (fun j hj => by
    obtain rfl : j = m := by simpa using hj
    exact h.lm) h.rc.bl.size), Var.keep h.rc.rv hF (by simp; exact h.ne.1)⟩, h.mv.set _, h.fv.keep hF (by simp; exact fun e => h.ne.2.2 e.symm), h.lm, h.lf, h.ne⟩
/-- Blocks of its own are changed alone. -/
theorem RX.far {w0 w w' : World} {b m f : Nat} {s : List UInt8} {many : Nat} {N : List Nat} (h : RX w0 b m f s many w) (hF : Fr N w w') (hN : ∀ j ∈ N, w0.heap.size ≤ j ∧ j ≠ b ∧ j ≠ m ∧ j ≠ f) : RX w0 b m f s many w' :=
  ⟨⟨h.rc.e, h.rc.lb, h.rc.bl.trans (hF.below _ (fun j hj => (hN j hj).1) h.rc.bl.size), Var.keep h.rc.rv hF (fun hm => (hN b hm).2.1 rfl)⟩, h.mv.keep hF (fun hm => (hN m hm).2.2.1 rfl), h.fv.keep hF (fun hm => (hN f hm).2.2.2 rfl), h.lm, h.lf, h.ne⟩
/-- What a call of the closure leaves. -/
def RdP (w0 : World) (b m f : Nat) (s : List UInt8) (o : Res DT) (w : World) (e : Ending) (w' : World) : Prop :=
  match o with
  | .err c => e = .returned (.tuple #[.pointer none, .int .i64 c]) ∧ Fr [b, m] w w' ∧ c ≠ 0
  | .ok t r k => ∃ tr : Tr, e = .returned (.tuple #[ptrV tr.p, .int .i64 0]) ∧ RX w0 b m f r k w' ∧ Fr [b, m] w w' ∧ IsT w' (w.heap.size ≤ ·) tr ∧ tr.dt = t ∧ tr.nodes.Nodup ∧ r.length ≤ s.length ∧ k ≤ 8192
def preK (l : List DT) : Res (List DT) → Res (List DT)
  | .err e => .err e
  | .ok ks r m => .ok (l ++ ks) r m
theorem preK_nil (o : Res (List DT)) : preK [] o = o := by cases o <;> rfl
theorem preK_app (a b : List DT) (o : Res (List DT)) : preK a (preK b o) = preK (a ++ b) o := by cases o <;> simp [preK]
/-- The kids of a node, so far. -/
structure LI (w0 : World) (b m f : Nat) (w : World) (pn : Nat) (d : ND) (wr : World) (s : List UInt8) (many : Nat) (v : Value) (ts : List Tr) : Prop where
  rx : RX w0 b m f s many wr
  fr : Fr [b, m] w wr
  n : wr.heap[pn]? = some (nodeO d v)
  r : Row wr (w.heap.size ≤ ·) v (ts.map Tr.p)
  k : IsTL wr (fun j => w.heap.size ≤ j ∧ j ≠ pn ∧ j ∉ obL v) ts
  nd : (nodesL ts).Nodup
  p : w.heap.size ≤ pn
  lt : b < w.heap.size ∧ m < w.heap.size ∧ f < w.heap.size
theorem LI.fa {w0 : World} {b m f : Nat} {w : World} {pn : Nat} {d : ND} {wr w' : World} {s s' : List UInt8} {many many' : Nat} {v : Value} {ts : List Tr} (h : LI w0 b m f w pn d wr s many v ts) (hx : RX w0 b m f s' many' w') (hF : Fr [b, m] wr w') : LI w0 b m f w pn d w' s' many' v ts := by
  have hbig : ∀ j, w.heap.size ≤ j → j ∉ [b, m] := fun j hj hm => by
    have := h.lt
    simp at hm
    omega
  refine ⟨hx, h.fr.trans hF (fun j hj => .inl hj), (hF.block pn (lt_heap h.n) (hbig pn h.p)).trans h.n, h.r.frame hF (fun j hj => hbig j (h.r.base j hj).1), h.k.keep (fun _ hj _ => hj) (fun j hj hlt => hF.block j hlt (hbig j hj.1)), h.nd, h.p, h.lt⟩
theorem LI.on {w0 : World} {b m f : Nat} {w : World} {pn : Nat} {d : ND} {w4 w5 w6 : World} {s s' : List UInt8} {many many' : Nat} {v : Value} {ts : List Tr} (h : LI w0 b m f w pn d w4 s many v ts) (hx : RX w0 b m f s' many' w5) (hF : Fr [b, m] w4 w5)
    (t : Tr) (ht : IsT w5 (w4.heap.size ≤ ·) t) (hn : t.nodes.Nodup) (c : Obj) (g cap : Nat)
    (hown : w6.ownsRow 0 33 1 (.slice (some ⟨g, 0, none⟩) (ts.length + 1) cap) (ts.length + 1) ((ts.map Tr.p).map ptrV ++ [ptrV t.p])) (hgrow : (w5.alloc c).grownBy w6 v.ownBlock) (hat : v.ownBlock = some g ∨ g = w5.heap.size + 1) :
    LI w0 b m f w pn d (w6.setCell ⟨pn, 4, none⟩ (.slice (some ⟨g, 0, none⟩) (ts.length + 1) cap)) s' many' (.slice (some ⟨g, 0, none⟩) (ts.length + 1) cap) (ts ++ [t]) := by
  have h5 := h.fa hx hF
  have F1 := Fr.alloc w5 c
  have F2 := Fr.of_grown hgrow
  have F12 : Fr (obL v) w5 w6 := (F1.mono (by simp)).trans F2 (fun j hj => .inl hj)
  have F3 := Fr.set w6 pn 4 (.slice (some ⟨g, 0, none⟩) (ts.length + 1) cap)
  have hpv := row_node h5.r h5.n
  have n3 : w6.heap[pn]? = some (nodeO d v) := (F12.block pn (lt_heap h5.n) hpv).trans h5.n
  have hvold : ∀ j ∈ obL v, w.heap.size ≤ j ∧ j < w4.heap.size := fun j hj => h.r.base j hj
  have hgw : w.heap.size ≤ g ∧ (g ∈ obL v ∨ w5.heap.size ≤ g) := by
    rcases hat with h1 | h1
    · have := (mem_ob v g).2 h1
      exact ⟨(hvold g this).1, .inl this⟩
    · have := h.fr.size; have := hF.size
      exact ⟨by omega, .inr (by omega)⟩
  have hR3 : Row w6 (w.heap.size ≤ ·) (.slice (some ⟨g, 0, none⟩) (ts.length + 1) cap) ((ts ++ [t]).map Tr.p) := by
    refine ⟨?_, fun k hk => ?_⟩
    · have e1 : ((ts ++ [t]).map Tr.p).length = ts.length + 1 := by simp
      have e2 : ((ts ++ [t]).map Tr.p).map ptrV = (ts.map Tr.p).map ptrV ++ [ptrV t.p] := by simp
      rw [e1, e2]
      exact hown
    · obtain rfl : g = k := by simpa [Value.ownBlock] using hk
      exact hgw.1
  have hpg : pn ∉ obL (.slice (some ⟨g, 0, none⟩) (ts.length + 1) cap) := row_node hR3 n3
  have hob : ∀ j, j ∈ obL (.slice (some ⟨g, 0, none⟩) (ts.length + 1) cap) → j = g := fun j hj => by simpa [obL, Value.ownBlock] using hj
  have F123 : Fr (pn :: obL v) w5 (w6.setCell ⟨pn, 4, none⟩ (.slice (some ⟨g, 0, none⟩) (ts.length + 1) cap)) := (F12.mono (fun j hj => List.mem_cons_of_mem _ hj)).trans F3 (fun j hj => .inl (by
    obtain rfl : j = pn := by simpa using hj
    exact List.mem_cons_self))
  have hNfar : ∀ j ∈ pn :: obL v, w.heap.size ≤ j := fun j hj => by
    rcases List.mem_cons.1 hj with rfl | hj
    · exact h.p
    · exact (hvold j hj).1
  have hlt := h.lt
  have hrx := hx.far F123 (fun j hj => by
    have h1 := hNfar j hj
    have h2 := hx.lf
    omega)
  have hpn4 : pn < w4.heap.size := lt_heap h.n
  refine ⟨hrx, ⟨F123.os.trans h5.fr.os, F123.tape.trans h5.fr.tape, F123.output.trans h5.fr.output, Nat.le_trans h5.fr.size F123.size, fun k hk hnk => (F123.block k (Nat.lt_of_lt_of_le hk h5.fr.size) (fun hm => by have := hNfar k hm; omega)).trans (h5.fr.block k hk hnk)⟩, by simp [World.setCell, Array.getElem?_modify, n3, nodeO], hR3.frame F3 (fun j hj hm => ?_), ?_, ?_, h.p, h.lt⟩
  · obtain rfl : j = pn := by simpa using hm
    exact hpg hj
  · refine IsTL.of fun u hu => ?_
    rcases List.mem_append.1 hu with hu | hu
    · have q1 : ∀ j, (w.heap.size ≤ j ∧ j ≠ pn ∧ j ∉ obL v) → j < w5.heap.size → (w.heap.size ≤ j ∧ j ≠ pn ∧ j ∉ obL (.slice (some ⟨g, 0, none⟩) (ts.length + 1) cap)) := fun j hj hl => ⟨hj.1, hj.2.1, fun hm => by
        have e := hob j hm
        subst e
        rcases hgw.2 with h1 | h1
        · exact hj.2.2 h1
        · omega⟩
      have q2 : ∀ j, (w.heap.size ≤ j ∧ j ≠ pn ∧ j ∉ obL v) → j < w5.heap.size → (w6.setCell ⟨pn, 4, none⟩ (.slice (some ⟨g, 0, none⟩) (ts.length + 1) cap)).heap[j]? = w5.heap[j]? := fun j hj hl => F123.block j hl (fun hm => by
        rcases List.mem_cons.1 hm with e | hm
        · exact hj.2.1 e
        · exact hj.2.2 hm)
      exact (h5.k.at u hu).keep q1 q2
    · obtain rfl : u = t := by simpa using hu
      have q1 : ∀ j, w4.heap.size ≤ j → j < w5.heap.size → (w.heap.size ≤ j ∧ j ≠ pn ∧ j ∉ obL (.slice (some ⟨g, 0, none⟩) (ts.length + 1) cap)) := fun j hj hl => ⟨Nat.le_trans h.fr.size hj, by omega, fun hm => by
        have e := hob j hm
        subst e
        rcases hgw.2 with h1 | h1
        · have := (hvold j h1).2; omega
        · omega⟩
      have q2 : ∀ j, w4.heap.size ≤ j → j < w5.heap.size → (w6.setCell ⟨pn, 4, none⟩ (.slice (some ⟨g, 0, none⟩) (ts.length + 1) cap)).heap[j]? = w5.heap[j]? := fun j hj hl => F123.block j hl (fun hm => by
        rcases List.mem_cons.1 hm with e | hm
        · omega
        · have := (hvold j hm).2; omega)
      exact ht.keep q1 q2
  · rw [nodesL_app]
    simp only [nodesL, List.append_nil]
    rw [List.nodup_append]
    refine ⟨h.nd, hn, fun x hx1 y hy e => ?_⟩
    have h1 := (IsTL.lt h.k x hx1).1
    have h2 := (IsT.lt ht y hy).2
    omega
end Go.Proofs.YtliebhpddjbjeaaGreatDoor
