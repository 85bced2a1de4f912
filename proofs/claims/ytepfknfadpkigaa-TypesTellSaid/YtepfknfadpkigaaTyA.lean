/- Package types: types as records, a table, and the smallest calls. -/
import Derived.Test.YtepfknfadpkigaaKnA
import Derived.Laws.AppendOwn
import Derived.Deep.AppendLies
import Derived.Deep.MidRow
import Derived.Laws.CopyOwn
import Derived.Laws.CopyRow
namespace Go.Proofs.Ytepfknfadpkigaa
open Go.RowKit
set_option maxHeartbeats 1000000
set_option maxRecDepth 100000
set_option linter.unusedVariables false
set_option linter.unusedSimpArgs false

/-- A slice. -/
structure Sl where
  p : Option Addr
  n : Nat
  c : Nat
def Sl.val (x : Sl) : Value := .slice x.p x.n x.c
def Sl.no : Sl := ⟨none, 0, 0⟩
/-- A type, as it is laid out. -/
structure TyV where
  k : Int
  m : ByteArray
  n : ByteArray
  b : Int
  x : Int
  lo : Int
  hi : Int
  ns : Sl
  fs : Sl
  rs : Sl
  ps : Sl
  r : Int
abbrev TyV.arr (x : TyV) : Array Value := #[.int .u8 x.k, .string x.m, .string x.n, .int .i64 x.b, .int .i64 x.x, .int .i64 x.lo, .int .i64 x.hi, .slice x.ns.p x.ns.n x.ns.c, .slice x.fs.p x.fs.n x.fs.c, .slice x.rs.p x.rs.n x.rs.c, .slice x.ps.p x.ps.n x.ps.c, .int .i64 x.r]
abbrev TyV.val (x : TyV) : Value := .agg #[.int .u8 x.k, .string x.m, .string x.n, .int .i64 x.b, .int .i64 x.x, .int .i64 x.lo, .int .i64 x.hi, .slice x.ns.p x.ns.n x.ns.c, .slice x.fs.p x.fs.n x.fs.c, .slice x.rs.p x.rs.n x.rs.c, .slice x.ps.p x.ps.n x.ps.c, .int .i64 x.r]
def TyV.z : TyV := ⟨0, ⟨#[]⟩, ⟨#[]⟩, 0, 0, 0, 0, .no, .no, .no, .no, 0⟩
theorem TyV.one (x : TyV) : x.arr.all (fun v => v.oneCell') = true := by simp [Value.oneCell']
theorem infoTy : (Try.prog.info? 43).map (·.size) = some 12 := by kernel_rfl
/-- The type of a number; of none: nothing. -/
def atP (L : List TyV) (i : Int) : TyV := if 0 ≤ i then (L[i.toNat]?).getD .z else .z
theorem atP_nat {L : List TyV} {k : Nat} {x : TyV} (h : L[k]? = some x) : atP L (k : Int) = x := by
  unfold atP
  rw [if_pos (by omega), Int.toNat_natCast, h]; rfl
theorem atP_out {L : List TyV} {i : Int} (h : i < 0 ∨ L.length ≤ i) : atP L i = .z := by
  unfold atP
  by_cases h1 : 0 ≤ i
  · rw [if_pos h1, List.getElem?_eq_none (by omega)]; rfl
  · rw [if_neg h1]
/-- A row of types in memory. -/
def RowTy (w : World) (g : Nat) (L : List TyV) : Prop := ∀ i x, L[i]? = some x → ∀ (j : Nat) v, x.arr[j]? = some v → w.cell? ⟨g, i * 12 + j, none⟩ = some v
def rowT (L : List TyV) : List Value := L.flatMap fun x => x.arr.toList
theorem rowT_len (L : List TyV) : (rowT L).length = L.length * 12 := by
  induction L with
  | nil => rfl
  | cons x r ih => unfold rowT at *; rw [List.flatMap_cons, List.length_append, ih]; show 12 + r.length * 12 = (r.length + 1) * 12; omega
theorem rowT_at : ∀ (L : List TyV) (i : Nat) (x : TyV), L[i]? = some x → ∀ (j : Nat) v, x.arr[j]? = some v → (rowT L)[i * 12 + j]? = some v
  | [], i, x, h, _, _, _ => by simp at h
  | y :: r, 0, x, h, j, v, hv => by
    simp only [List.getElem?_cons_zero, Option.some.injEq] at h
    subst h
    have hj : j < 12 := (Array.getElem?_eq_some_iff.1 hv).1
    unfold rowT
    rw [List.flatMap_cons, List.getElem?_append_left (by show 0 * 12 + j < 12; omega), Nat.zero_mul, Nat.zero_add]
    simpa using hv
  | y :: r, i + 1, x, h, j, v, hv => by
    have ih := rowT_at r i x (by simpa using h) j v hv
    unfold rowT at *
    rw [List.flatMap_cons, List.getElem?_append_right (by show 12 ≤ (i + 1) * 12 + j; omega)]
    rw [show (i + 1) * 12 + j - y.arr.toList.length = i * 12 + j from by show (i + 1) * 12 + j - 12 = _; omega]
    exact ih
/-- A table. -/
structure Tab (w : World) (t g cap : Nat) (L : List TyV) : Prop where
  c : w.heap[t]? = some (.cells #[.slice (some ⟨g, 0, none⟩) L.length cap] 72)
  own : w.ownsRow 0 43 12 (.slice (some ⟨g, 0, none⟩) L.length cap) L.length (rowT L)
  n : 10 ≤ L.length ∧ L.length ≤ 1024
  ne : t ≠ g
  t : t < w.heap.size ∧ g < w.heap.size
theorem Tab.row {w : World} {t g cap : Nat} {L : List TyV} (h : Tab w t g cap L) : RowTy w g L := by
  intro i x hx j v hv
  have hi : i < L.length := (List.getElem?_eq_some_iff.1 hx).1
  have hj : j < 12 := (Array.getElem?_eq_some_iff.1 hv).1
  rw [h.own.cellAt (i * 12 + j) (by omega)]
  exact rowT_at L i x hx j v hv
theorem Tab.c0 {w : World} {t g cap : Nat} {L : List TyV} (h : Tab w t g cap L) : w.cell? ⟨t, 0, none⟩ = some (.slice (some ⟨g, 0, none⟩) L.length cap) := by
  have := h.c
  simp [World.cell?, this]
theorem RowTy.get {w : World} {g : Nat} {L : List TyV} (h : RowTy w g L) {i : Nat} {x : TyV} (hx : L[i]? = some x) : w.rangeAt g (i * 12) x.arr.toList := by
  intro j v hv
  exact h i x hx j v (by simpa using hv)
theorem Tab.same {w w' : World} {t g cap : Nat} {L : List TyV} (h : Tab w t g cap L) (h1 : w'.heap[t]? = w.heap[t]?) (h2 : w'.heap[g]? = w.heap[g]?) (hs : w.heap.size ≤ w'.heap.size) : Tab w' t g cap L :=
  by
  refine ⟨h1.trans h.c, ⟨h.own.1, ?_⟩, h.n, h.ne, by have := h.t; omega⟩
  rcases h.own.2 with ⟨e, _⟩ | ⟨g', c', cur, e1, e2, e3, e4⟩
  · cases e
  · injection e1 with e1 e5 e6
    injection e1 with e1
    injection e1 with e1
    subst e1 e6
    exact .inr ⟨g, cap, cur, rfl, e2, h2.trans e3, e4⟩
theorem Tab.on {w w' : World} {t g cap : Nat} {L : List TyV} (h : Tab w t g cap L) (k : Bl w w') : Tab w' t g cap L := h.same (k.block t h.t.1) (k.block g h.t.2) k.size
theorem bl_new (w : World) (o : Obj) : Bl w (w.alloc o) := (Below.refl _ _).alloc (Nat.le_refl _) _
theorem bl_row {w w' : World} {b : Nat} (h : Bl w w') (hb : w.heap.size ≤ b) (cs : Array Value) : Bl w (w'.setRow b cs) := below_setRow h hb cs
/-- A variable of a whole struct. -/
def Bx (w : World) (b : Nat) (t : TypeId) (cs : Array Value) : Prop := w.heap[b]? = some (.cells cs t)
theorem Bx.on {w w' : World} {b : Nat} {t : TypeId} {cs : Array Value} (h : Bx w b t cs) (k : Bl w w') : Bx w' b t cs := (k.block b (Array.getElem?_eq_some_iff.1 h).1).trans h
theorem Bx.new (w : World) (t : TypeId) (cs : Array Value) : Bx (w.alloc (.cells cs t)) w.heap.size t cs := heap_alloc_new _ _
theorem Bx.set {w : World} {b : Nat} {t : TypeId} {cs : Array Value} (h : Bx w b t cs) (ds : Array Value) : Bx (w.setRow b ds) b t ds := setRow_heap w b cs ds t (0, 0) h
theorem Bx.off {w : World} {b c : Nat} {t : TypeId} {cs : Array Value} (h : Bx w b t cs) (hne : b ≠ c) (ds : Array Value) : Bx (w.setRow c ds) b t cs := (setRow_other w c b ds hne).trans h
theorem len_tab {w : World} {t g cap : Nat} {L : List TyV} (h : Tab w t g cap L) : Calls Try.prog 8 #[.pointer (some ⟨t, 0, none⟩)] w fun e w' => e = .returned (.int .i64 L.length) ∧ Bl w w' := by
  have hc := h.c0
  clear h
  go_enter Try.func8, Try.ntmps8
  go_wp2_with fail
  go_ret
  exact ⟨rfl, Below.refl _ _⟩
theorem at_out {w : World} {t g cap : Nat} {L : List TyV} (h : Tab w t g cap L) (i : Int) (hi : i < 0 ∨ L.length ≤ i) : Calls Try.prog 29 #[.pointer (some ⟨t, 0, none⟩), .int .i64 i] w fun e w' => e = .returned TyV.z.val ∧ Bl w w' := by
  rcases Int.lt_or_le i 0 with h1 | h1
  · have d1 : decide (i < 0) = true := decide_eq_true h1
    clear hi
    go_enter Try.func29, Try.ntmps29
    go_wp2_with fail
    refine bodyPost_ret (v := TyV.z.val) (by simp [results, Try.results29, go_sem, TyV.z, TyV.val, Sl.no]) rfl ⟨rfl, ?_⟩
    repeat (first | exact Below.refl _ _ | assumption | refine Below.alloc ?_ (by simp <;> omega) _ | refine Below.setCell ?_ (by simp <;> omega) _)
  · have d1 : decide (i < 0) = false := decide_eq_false (by omega)
    have h2 : (L.length : Int) ≤ i := by omega
    obtain ⟨n, hn⟩ : ∃ n, L.length = n := ⟨_, rfl⟩
    have d2 : decide (i ≥ (n : Int)) = true := decide_eq_true (by omega)
    have HL := fun w (h : Tab w t g cap L) => len_tab h
    have HT := Lib.hid h
    rw [hn] at HL
    clear hi h1 h2 h hn
    go_enter Try.func29, Try.ntmps29
    go_wp2_with fail
    refine (HL _ (HT.out.on (bl_new _ _))).mono ?_
    rintro e w2 ⟨rfl, k2⟩
    have KB := (Bx.new w 43 TyV.z.arr).on k2
    have KK := Lib.hid k2
    clear k2
    go_wp2_with (refine wpList_store_row rfl 43 _ _ rfl w.heap.size TyV.z.arr rfl rfl 43 _ KB infoTy rfl TyV.z.one ?_)
    refine bodyPost_ret (v := TyV.z.val) ?_ rfl ?_
    · exact results_cell_row Try.results29 _ _ _ 43 TyV.z.arr (0, 0) _ rfl (KB.set _) Try.underlying43 rfl infoTy
    exact ⟨rfl, bl_row ((bl_new w _).on KK.out) (Nat.le_refl _) _⟩
theorem at_in {w : World} {t g cap : Nat} {L : List TyV} (h : Tab w t g cap L) (k : Nat) (x : TyV) (hk : L[k]? = some x) : Calls Try.prog 29 #[.pointer (some ⟨t, 0, none⟩), .int .i64 k] w fun e w' => e = .returned x.val ∧ Bl w w' := by
  have hlt : k < L.length := (List.getElem?_eq_some_iff.1 hk).1
  have h10 := h.n
  obtain ⟨n, hn⟩ : ∃ n, L.length = n := ⟨_, rfl⟩
  have HL := fun w (h : Tab w t g cap L) => len_tab h
  have HC := h.c0
  have HT := Lib.hid h
  have HK := Lib.hid hk
  rw [hn] at HL hlt h10 HC
  have d1 : decide ((k : Int) < 0) = false := decide_eq_false (by omega)
  have d2 : decide ((k : Int) ≥ (n : Int)) = false := decide_eq_false (by omega)
  have HN := Lib.hid hn
  clear h hk hn
  go_enter Try.func29, Try.ntmps29
  go_wp2_with fail
  refine (HL _ (HT.out.on (bl_new _ _))).mono ?_
  rintro e w2 ⟨rfl, k2⟩
  have T2 := (HT.out.on (bl_new _ _)).on k2
  have HC2 := T2.c0
  rw [HN.out] at HC2
  have HR := Lib.hid (T2.row.get HK.out)
  have KB := (Bx.new w 43 TyV.z.arr).on k2
  have KK := Lib.hid k2
  clear k2 T2 HT HL HN HC HK
  go_wp2_with (first | (refine wpList_load_mid rfl 43 _ rfl g (k * 12) rfl x.arr.toList _ HR.out Try.underlying43 rfl infoTy ?_) | (refine wpList_store_row rfl 43 _ _ rfl w.heap.size x.arr rfl rfl 43 _ KB infoTy rfl x.one ?_))
  refine bodyPost_ret (v := x.val) ?_ rfl ?_
  · exact results_cell_row Try.results29 _ _ _ 43 x.arr (0, 0) _ rfl (KB.set _) Try.underlying43 rfl infoTy
  exact ⟨rfl, bl_row ((bl_new w _).on KK.out) (Nat.le_refl _) _⟩
theorem at_any {w : World} {t g cap : Nat} {L : List TyV} (h : Tab w t g cap L) (i : Int) : Calls Try.prog 29 #[.pointer (some ⟨t, 0, none⟩), .int .i64 i] w fun e w' => e = .returned (atP L i).val ∧ Bl w w' := by
  by_cases hi : i < 0 ∨ L.length ≤ i
  · rw [atP_out hi]; exact at_out h i hi
  · obtain ⟨k, rfl⟩ : ∃ k : Nat, i = k := ⟨i.toNat, by omega⟩
    have hk : k < L.length := by omega
    rw [atP_nat (List.getElem?_eq_getElem hk)]
    exact at_in h k _ (List.getElem?_eq_getElem hk)
end Go.Proofs.Ytepfknfadpkigaa
