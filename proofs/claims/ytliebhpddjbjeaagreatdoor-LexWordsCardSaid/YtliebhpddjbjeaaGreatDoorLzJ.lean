/- A loop over tokens: what the iterator hands out, one by one; what its caller owes. The iterator keeps a state of its own in one block (b): so the caller's own say must abide a turn of that block. -/
import Derived.Test.YtliebhpddjbjeaaGreatDoorLzI
import Derived.RangeFuncNested
import Derived.RangeFuncBound
import Derived.RangeFuncCalls
import Derived.RangeFuncLeaves
import Derived.Shelf.Abstract
import Derived.Shelf.RegionOpen
import Derived.OwnWalkIn
import Derived.TacticsInMore
import Derived.LoopNIn
import Derived.LoopIn
namespace Go.Proofs.YtliebhpddjbjeaaGreatDoor
open Go.RowKit Go.Shelf
set_option maxHeartbeats 1000000
set_option maxRecDepth 100000
set_option linter.unusedVariables false

/-- A token with its places, as a value. -/
def tkV (x : TK) : Value := .agg #[.int .u8 x.1.k, posV x.2.1.1 x.2.1.2, posV x.2.2.1 x.2.2.2, .string ⟨x.1.x.toArray⟩, .int .i64 x.1.n]
/-- What comes last: the end, or an error and where it stands. -/
def lastY (S : List UInt8) : Value × Int :=
  if (scanS 0 S).2.2 = 0 then (tkV (endT S (scanS 0 S).2.1), 0)
  else (.agg #[.int .u8 0, posV (goB 1 1 (S.take (scanS 0 S).2.1)).1 (goB 1 1 (S.take (scanS 0 S).2.1)).2, if (scanS 0 S).2.2 = 43 then .complex .f64 0 0 else posV (goB 1 1 (S.take (scanS 0 S).2.1)).1 (goB 1 1 (S.take (scanS 0 S).2.1)).2, .string ⟨#[]⟩, .int .i64 0], (scanS 0 S).2.2)
/-- All that is handed out. -/
def ysL (S : List UInt8) : List (Value × Int) := ((scanS 0 S).1.map fun x => (tkV (plOf S x), 0)) ++ [lastY S]
/-- What the caller owes the iterator at the k-th time that it is handed something. -/
def YOwe (S : List UInt8) (n0 n : Nat) (l b : Nat) (J : Nat → World → Prop) (JX : World → Prop) : Prop :=
  ∀ (k : Nat) (v : Value) (e : Int) (W0 W1 : World) (B : Nat), J k W0 → W0.grownBy W1 (some b) → W0.heap.size ≤ B → (ysL S)[k]? = some (v, e) →
    YieldAt Fence.wide n Tryz.prog l #[v, .int .i64 e] W1 fun en W' =>
      (e = 0 ∧ en = .returned (.bool true) ∧ J (k + 1) W' ∧ W'.heap[b]? = W1.heap[b]? ∧ (B < W1.heap.size → W'.heap[B]? = W1.heap[B]?) ∧ Below n0 W1 W') ∨ (e ≠ 0 ∧ en = .returned (.bool false) ∧ JX W')
/-- The iterator hands out a source's tokens. -/
def IterOk (S : List UInt8) (n0 n : Nat) (gf : Nat) (lb : Array Value) (b : Nat) (W : World) : Prop :=
  ∀ (l : Nat) (J : Nat → World → Prop) (JX : World → Prop), YOwe S n0 (n - 1) l b J JX → J 0 W →
    CallsIn Fence.wide n Tryz.prog gf (#[.func (.yield l) #[] #[]] ++ lb) W fun en W' => (∃ v, en = .returned v) ∧
      (((scanS 0 S).2.2 = 0 ∧ ∃ W0, J (ysL S).length W0 ∧ W0.grownBy W' (some b)) ∨ ((scanS 0 S).2.2 ≠ 0 ∧ ∃ W0, JX W0 ∧ W0.grownBy W' (some b)))

theorem grown_same {X Y : World} {b k : Nat} (h : X.grownBy Y (some b)) {o : Obj} (hk : X.heap[k]? = some o) (hne : k ≠ b) : Y.heap[k]? = some o :=
  (h.block k (Array.getElem?_eq_some_iff.1 hk).1 (fun e => hne (Option.some.inj e))).trans hk
theorem grown_none {X Y : World} {k : Nat} (h : X.grownBy Y none) {o : Obj} (hk : X.heap[k]? = some o) : Y.heap[k]? = some o :=
  (h.block k (Array.getElem?_eq_some_iff.1 hk).1 (fun e => by cases e)).trans hk
theorem lt_of_heap {X : World} {k : Nat} {o : Obj} (hk : X.heap[k]? = some o) : k < X.heap.size := (Array.getElem?_eq_some_iff.1 hk).1
theorem put_other {X : World} {l k : Nat} {o : Obj} (h : k ≠ l) : (X.putObj l o).heap[k]? = X.heap[k]? := World.putObj_heap_other h
/-- What a caller's say on worlds must abide: a turn of the iterator's block, and of blocks that the loop has laid for its book-keeping. -/
def Bears (b B0 : Nat) (I : World → Prop) : Prop :=
  ∀ X Y row, I X → X.grownBy Y row → (∀ r, row = some r → r = b ∨ (B0 ≤ r ∧ ∃ o : Obj, X.heap[r]? = some o ∧ o.isCells = false)) → I Y
theorem Bears.put {b B0 : Nat} {I : World → Prop} (h : Bears b B0 I) {X : World} {l : Nat} {o : Obj} (o' : Obj) (hs : I X) (hB : B0 ≤ l) (hl : X.heap[l]? = some o) (ho : o.isCells = false) : I (X.putObj l o') :=
  h X _ (some l) hs (grownBy_putObj' X l o') (fun r e => by cases e; exact .inr ⟨hB, o, hl, ho⟩)
theorem Bears.own {b B0 : Nat} {I : World → Prop} (h : Bears b B0 I) {X Y : World} (hs : I X) (hg : X.grownBy Y (some b)) : I Y :=
  h X Y (some b) hs hg (fun r e => by cases e; exact .inl rfl)
theorem Bears.new {b B0 : Nat} {I : World → Prop} (h : Bears b B0 I) {X Y : World} (hs : I X) (hg : X.grownBy Y none) : I Y :=
  h X Y none hs hg (fun r e => by cases e)

theorem range_z (S : List UInt8) {g : Operand} {ps : Array Tmp} {assign body : Code} {Q : Exit → Act → World → Prop} {a : Act} {w : World} (n0 : Nat) (hn0 : n0 ≤ w.heap.size) (n : Nat) (gf : Nat) (lb : Array Value) (b : Nat) (hb : b < w.heap.size)
    (hg : a.eval g = .func (.func gf) #[] lb) (eg : ∀ args w, (callFunc gf args).run Tryz.prog w = .ok (.enter gf args) w)
    (IT : ∀ W, w.grownBy W none → IterOk S n0 (n - 1) gf lb b W) (hps : ps.size = 2)
    (I : Nat → Nat → World → Prop) (IX : World → Prop) (hI : ∀ k N, Bears b w.heap.size (I k N)) (hIX : Bears b w.heap.size IX)
    (hN : ∀ k N N' X, I k N X → N ≤ N' → I k N' X) (h0 : I 0 w.heap.size w)
    (Ax : Value → Int → Act → World → Prop) (hAx : ∀ v e a', Bears b w.heap.size (Ax v e a'))
    (hassign : ∀ (l k : Nat) (v : Value) (e : Int) (X : World) (K : Act → World → Prop), (ysL S)[k]? = some (v, e) → w.heap.size ≤ X.heap.size →
      (∀ a' Y, X.grownBy Y none → Ax v e a' Y → K a' Y) →
      assign.wpIn (Fence.wide.inRound l) (n - 1 - 1) Tryz.prog (Exit.then K (fun _ _ _ => False)) { tmps := (ps.zip #[v, .int .i64 e]).foldl (fun t (p, v) => t.setIfInBounds p v) a.tmps, defers := [] } X)
    (hbody : ∀ (l k N B : Nat) (v : Value) (e : Int) (a' : Act) (X : World), (ysL S)[k]? = some (v, e) → I k N X → N ≤ B → Ax v e a' X →
      body.wpIn (Fence.wide.inRound l) (n - 1 - 1) Tryz.prog (fun ex _ Y => match ex with
        | .normal => e = 0 ∧ KeepsFrom w.heap.size X Y ∧ I (k + 1) Y.heap.size Y ∧ Y.heap[b]? = X.heap[b]? ∧ (B < X.heap.size → Y.heap[B]? = X.heap[B]?) ∧ Below n0 X Y
        | .ret => e ≠ 0 ∧ KeepsFrom w.heap.size X Y ∧ IX Y
        | _ => False) a' X)
    (hdone : (scanS 0 S).2.2 = 0 → ∀ (D N : Nat) (W : World), w.heap.size ≤ D → I (ysL S).length N W → W.heap[D]? = some (.deferred (some [])) → Q .normal { a with defers := { target := .collected D, args := #[] } :: a.defers } W)
    (hstop : (scanS 0 S).2.2 ≠ 0 → ∀ (D : Nat) (W : World), w.heap.size ≤ D → IX W → W.heap[D]? = some (.deferred (some [])) → Code.ret.wpIn Fence.wide n Tryz.prog Q { a with defers := { target := .collected D, args := #[] } :: a.defers } W) :
    (Code.rangeFunc g ps assign body).wpIn Fence.wide n Tryz.prog Q a w := by
  refine wpIn_rangeFunc ?_
  intro fn hfn
  obtain ⟨rc, hrc⟩ : ∃ rc : LoopState → Option Code → Loop, rc = fun st pe => { state := st, pending := pe, fn, tmps := a.tmps, params := ps, assign, body, defers := w.heap.size } := ⟨_, rfl⟩
  obtain ⟨D, hD⟩ : ∃ D, w.heap.size = D := ⟨_, rfl⟩
  obtain ⟨W1, hW1⟩ : ∃ W1, (w.alloc (.deferred (some []))).alloc (.loop (rc .ready none)) = W1 := ⟨_, rfl⟩
  have hg1 : w.grownBy W1 none := by
    rw [← hW1]
    exact (World.grownBy_alloc w _ none).andThen (World.grownBy_alloc _ _ none) (fun j h => by cases h)
  have hL1 : W1.heap[D + 1]? = some (.loop (rc .ready none)) := by
    rw [← hW1, ← hD]
    have := World.alloc_heap_new (w.alloc (.deferred (some []))) (.loop (rc .ready none))
    rwa [World.size_alloc] at this
  have hK1 : W1.heap[D]? = some (.deferred (some [])) := by
    rw [← hW1, ← hD]
    exact (Below.heap_alloc _ _ _ (by simp)).trans (World.alloc_heap_new w _)
  have hs1 : w.heap.size ≤ W1.heap.size := hg1.size
  have hbD : b < D := by omega
  refine ⟨D + 1, [{ target := .collected D, args := #[] }], W1, { target := .fn (.func gf) lb, args := #[.func (.yield (D + 1)) #[] #[]] }, W1, gf,
    #[.func (.yield (D + 1)) #[] #[]] ++ lb, W1, ?_, ?_, ?_, ?_, (fun h => by simp [Fence.wide] at h), ?_⟩
  · have := run_enterLoop_outer (P := Tryz.prog) (w := w) fn a.tmps ps assign body
    rw [hD] at this
    rw [← hW1, hrc, hD]
    exact this
  · simp only [resolve, hg]
    simp [go_sem]
  · intro f' _; trivial
  · simp [invoke, go_sem, eg]
  refine ((IT W1 hg1) (D + 1)
    (fun k W => I k W.heap.size W ∧ W.heap[D + 1]? = some (.loop (rc .ready none)) ∧ W.heap[D]? = some (.deferred (some [])))
    (fun W => IX W ∧ W.heap[D + 1]? = some (.loop (rc .done (some .ret))) ∧ W.heap[D]? = some (.deferred (some [])))
    ?_ ⟨hN _ _ _ _ ((hI 0 _).new h0 hg1) hs1, hL1, hK1⟩).mono ?_
  · rintro k v e V0 V1 B ⟨hi, hl, hk⟩ hgr hB0 hy
    have hlt0 := lt_of_heap hl
    have hi1 := (hI k _).own hi hgr
    have hl1 := grown_same hgr hl (by omega)
    have hk1 := grown_same hgr hk (by omega)
    have hyl := run_yield (P := Tryz.prog) (args := #[v, .int .i64 e]) hl1 (by rw [hrc]; simp [hps])
    rw [hrc] at hyl
    refine ⟨fn, _, assign, body, hyl, roundIn_of_wpIn hfn (hassign (D + 1) k v e V1 _ hy (by have := hgr.size; omega) ?_)⟩
    intro a' Va hga hax
    have hla := grown_none hga hl1
    have hka := grown_none hga hk1
    have hia := (hI k _).new hi1 hga
    refine ⟨_, run_beginRound hla (by rw [hrc]), ?_⟩
    have hrow : w.heap.size ≤ D + 1 := by omega
    have hl2 : (Va.putObj (D + 1) (.loop { rc .ready none with state := .busy })).heap[D + 1]? = some (.loop { rc .ready none with state := .busy }) := World.putObj_heap_same (lt_of_heap hla)
    have hk2 : (Va.putObj (D + 1) (.loop { rc .ready none with state := .busy })).heap[D]? = some (.deferred (some [])) := (put_other (by omega)).trans hka
    refine wpIn_mono (hbody (D + 1) k V0.heap.size B v e a' _ hy ((hI k _).put _ hia hrow hla rfl) hB0 ((hAx v e a').put _ hax hrow hla rfl)) ?_
    have hbk : (Va.putObj (D + 1) (.loop { rc .ready none with state := .busy })).heap[b]? = V1.heap[b]? := by
      have hb1 : b < V1.heap.size := by have := hgr.size; omega
      exact (put_other (by omega)).trans (hga.block b hb1 (fun h => by cases h))
    have hBk : B < V1.heap.size → (Va.putObj (D + 1) (.loop { rc .ready none with state := .busy })).heap[B]? = V1.heap[B]? := fun hB1 =>
      (put_other (by omega)).trans (hga.block B hB1 (fun h => by cases h))
    have hsz : V1.heap.size ≤ (Va.putObj (D + 1) (.loop { rc .ready none with state := .busy })).heap.size := by
      rw [World.putObj_size]; exact hga.size
    rintro ex a3 Y hp
    cases ex with
    | normal =>
      obtain ⟨he, hkf, hi3, hb3, hB3, hbl3⟩ := hp
      have hl3 := hkf.same _ _ hrow hl2 rfl
      have hk3 := hkf.same _ _ (by omega) hk2 rfl
      have hend := run_endRound (P := Tryz.prog) none hl3
      refine ⟨_, _, hend, .inl ⟨he, rfl, ⟨?_, ?_, (put_other (by omega)).trans hk3⟩, ?_, ?_, ?_⟩⟩
      · rw [World.putObj_size]; exact (hI _ _).put _ hi3 hrow hl3 rfl
      · rw [World.putObj_heap_same (lt_of_heap hl3), hrc]; rfl
      · rw [put_other (by omega), hb3, hbk]
      · intro hB1
        rw [put_other (by omega), hB3 (Nat.lt_of_lt_of_le hB1 hsz), hBk hB1]
      · have e1 : Below n0 V1 Va := (Below.refl _ _).grown hga (by have := hgr.size; omega) (fun k h => by cases h)
        have e2 : Below n0 V1 (Va.putObj (D + 1) (.loop { rc .ready none with state := .busy })) := e1.grown (grownBy_putObj' _ _ _) (by have := e1.size; have := hgr.size; omega) (fun k h => by cases h; omega)
        have h9 : n0 ≤ V1.heap.size := by have := hgr.size; omega
        exact (e2.trans hbl3).grown (grownBy_putObj' _ _ _) (Nat.le_trans (Nat.le_trans h9 hsz) hkf.size) (fun k h => by cases h; omega)
    | ret =>
      obtain ⟨he, hkf, hi3⟩ := hp
      have hl3 := hkf.same _ _ hrow hl2 rfl
      have hk3 := hkf.same _ _ (by omega) hk2 rfl
      have hend := run_endRound (P := Tryz.prog) (some .ret) hl3
      refine ⟨_, _, hend, .inr ⟨he, rfl, hIX.put _ hi3 hrow hl3 rfl, ?_, (put_other (by omega)).trans hk3⟩⟩
      rw [World.putObj_heap_same (lt_of_heap hl3), hrc]; rfl
    | exit id => exact hp.elim
    | goto t => exact hp.elim
    | panic ch => exact hp.elim
    | outgrown => exact hp.elim
  · rintro en W2 ⟨⟨v, rfl⟩, (⟨hz, W0, ⟨hi, hl, hk⟩, hgr⟩ | ⟨hz, W0, ⟨hi, hl, hk⟩, hgr⟩)⟩
    · have hl1 := grown_same hgr hl (by omega)
      have hk1 := grown_same hgr hk (by omega)
      have hend := run_endLoop (P := Tryz.prog) hl1 (by rw [hrc]; simp)
      rw [hrc] at hend
      exact ⟨none, _, hend, hdone hz D _ _ (by omega) ((hI _ _).put _ ((hI _ _).own hi hgr) (by omega) hl1 rfl) ((put_other (by omega)).trans hk1)⟩
    · have hl1 := grown_same hgr hl (by omega)
      have hk1 := grown_same hgr hk (by omega)
      have hend := run_endLoop (P := Tryz.prog) hl1 (by rw [hrc]; simp)
      rw [hrc] at hend
      exact ⟨some .ret, _, hend, hstop hz D _ (by omega) (hIX.put _ (hIX.own hi hgr) (by omega) hl1 rfl) ((put_other (by omega)).trans hk1)⟩
end Go.Proofs.YtliebhpddjbjeaaGreatDoor
