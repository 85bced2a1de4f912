/- The document's answers of layer 4: tokens in memory, with their places. -/
import Derived.Test.YtggembknccbpnaaGreatLyM
import Derived.Test.YtggembknccbpnaaGreatPlU
import Derived.Test.YtggembknccbpnaaGreatPlM
import Derived.Laws.AppendOwn
namespace Go.Proofs.YtggembknccbpnaaGreat
open Go.RowKit
set_option maxHeartbeats 1000000
set_option maxRecDepth 100000
set_option linter.unusedVariables false

theorem posV_two (l c : Int) : ∃ x y, posV l c = .complex .f64 x y := ⟨_, _, rfl⟩
/-- A token with its places. -/
def TK : Type := T0 × (Int × Int) × (Int × Int)
def tkCells (x : TK) : List Value := [.int .u8 x.1.k, posV x.2.1.1 x.2.1.2, posV x.2.2.1 x.2.2.2, .string ⟨x.1.x.toArray⟩, .int .i64 x.1.n]
/-- The list of tokens that a slice holds, in a block of the call's own. -/
def OwnT (w : World) (B : Nat) (v : Value) (l : List TK) : Prop := w.ownsRow B 73 5 v l.length (l.flatMap tkCells)
theorem infoTok : (Tryz.prog.info? 73).map (fun i => (i.zero, i.size, i.bytes)) = some (some (.agg #[.int .u8 0, .complex .f64 0 0, .complex .f64 0 0, .string ⟨#[]⟩, .int .i64 0]), 5, 64) := by kernel_rfl
/-- What is scanned, with the places of the source. -/
def plOf (S : List UInt8) (x : T0 × Nat × Nat) : TK := (x.1, goB 1 1 (S.take x.2.1), goB 1 1 (S.take x.2.2))
def lenOf (v : Value) : Nat := match v with | .string s => s.size | _ => 0
theorem tok_parts : ∃ i, Tryz.prog.info? 73 = some i ∧ i.zero = some (.agg #[.int .u8 0, .complex .f64 0 0, .complex .f64 0 0, .string ⟨#[]⟩, .int .i64 0]) ∧ i.size = 5 ∧ i.bytes = 64 := by
  have h := infoTok
  cases hi : Tryz.prog.info? 73 with
  | none => rw [hi] at h; cases h
  | some i =>
    rw [hi] at h
    simp at h
    exact ⟨i, rfl, h.1, h.2.1, h.2.2⟩
theorem OwnT.below {w w' : World} {B : Nat} {v : Value} {l : List TK} (h : OwnT w B v l) (hb : Below w.heap.size w w') : OwnT w' B v l := by
  obtain ⟨h1, h2⟩ := h
  refine ⟨h1, ?_⟩
  rcases h2 with h2 | ⟨g, cap, cur, e1, e2, e3, e4, e5, e6, e7⟩
  · exact .inl h2
  · have hlt : g < w.heap.size := by
      rcases Nat.lt_or_ge g w.heap.size with q | q
      · exact q
      · rw [Array.getElem?_eq_none q] at e3; cases e3
    exact .inr ⟨g, cap, cur, e1, e2, (hb.block g hlt).trans e3, e4, e5, e6, e7⟩
theorem OwnT.set {w : World} {B : Nat} {v : Value} {l : List TK} (h : OwnT w B v l) (a : Addr) (ha : a.block < B) (u : Value) : OwnT (w.setCell a u) B v l := ownsRow_setCell_below h ha u
theorem tkCells_len (l : List TK) : (l.flatMap tkCells).length = l.length * 5 := by
  induction l with
  | nil => rfl
  | cons x r ih => rw [List.flatMap_cons, List.length_append, ih]; show 5 + r.length * 5 = (r.length + 1) * 5; omega
theorem OwnT.next {B : Nat} {w1 : World} {v' : Value} {l : List TK} {x : TK} (h : w1.ownsRow B 73 5 v' (l.length + 1) (l.flatMap tkCells ++ tkCells x)) : OwnT w1 B v' (l ++ [x]) := by
  unfold OwnT
  rw [List.length_append, List.flatMap_append]
  simpa using h
theorem Two.grown {w w' : World} {row : Option Nat} {b : Nat} {x y : Int} (h : Two w b x y) (hg : w.grownBy w' row) (hb : b < w.heap.size) (hne : some b ≠ row) : Two w' b x y := by
  have e := hg.block b hb hne
  exact ⟨(World.cell?_of_block (a := ⟨b, 0, none⟩) e).trans h.c0, (World.cell?_of_block (a := ⟨b, 1, none⟩) e).trans h.c1, (World.frozen?_of_block (a := ⟨b, 0, none⟩) e).trans h.f0, (World.frozen?_of_block (a := ⟨b, 1, none⟩) e).trans h.f1⟩
/-- Where scanning stands: so much is done, the rest is to come. -/
def scanAt (S : List UInt8) (off : Nat) (done : List (T0 × Nat × Nat)) : Prop := scanS 0 S = (done ++ (scanS off (S.drop off)).1, (scanS off (S.drop off)).2)
theorem scanAt_start (S : List UInt8) : scanAt S 0 [] := by unfold scanAt; simp
theorem scanAt_skip (S : List UInt8) (off n : Nat) (done : List (T0 × Nat × Nat)) (h : scanAt S off done) (hne : S.drop off ≠ []) (hs : stp (S.drop off) = (none, n, 0)) : scanAt S (off + n) done := by
  unfold scanAt at h ⊢
  rw [h, scanS_skip off _ hne n hs, List.drop_drop]
theorem scanAt_tok (S : List UInt8) (off n : Nat) (done : List (T0 × Nat × Nat)) (t : T0) (e : Int) (h : scanAt S off done) (hne : S.drop off ≠ []) (hs : stp (S.drop off) = (some t, n, e)) : scanAt S (off + n) (done ++ [(t, off, off + n)]) := by
  unfold scanAt at h ⊢
  rw [h, scanS_tok off _ hne t n e hs, List.drop_drop]
  simp
theorem scanAt_err (S : List UInt8) (off n : Nat) (done : List (T0 × Nat × Nat)) (e : Int) (he : e ≠ 0) (h : scanAt S off done) (hne : S.drop off ≠ []) (hs : stp (S.drop off) = (none, n, e)) : (scanS 0 S).2 = (off, e) := by
  unfold scanAt at h
  rw [h, scanS_err off _ hne n e he hs]
theorem scanAt_end (S : List UInt8) (off : Nat) (done : List (T0 × Nat × Nat)) (h : scanAt S off done) (he : S.drop off = []) : scanS 0 S = (done, off, 0) := by
  unfold scanAt at h
  rw [h, he, scanS_nil]; simp
/-- The place behind so many bytes more. -/
theorem go_more (S : List UInt8) (off m : Nat) : goB 1 1 (S.take (off + m)) = goB (goB 1 1 (S.take off)).1 (goB 1 1 (S.take off)).2 ((S.drop off).take m) := by
  rw [← goB_append]
  congr 1
  rw [List.take_add]
end Go.Proofs.YtggembknccbpnaaGreat
