/- Law 11: what a type is made of. -/
import Derived.Test.YtepfknfadpkigaaTyK
import Derived.Deep.Cut
namespace Go.Proofs.Ytepfknfadpkigaa
open Go.RowKit
set_option maxHeartbeats 1000000
set_option maxRecDepth 100000
set_option linter.unusedVariables false
set_option linter.unusedSimpArgs false

def parP (pl : List Int) (vl : List Bool) (n : Int) (i : Nat) : Bool × Int := (vl.getD i false, pl.getD i 0 % n)
def psL (pl : List Int) (vl : List Bool) (n : Int) (k : Nat) : List (Bool × Int) := (List.range k).map (parP pl vl n)
theorem psL_next (pl : List Int) (vl : List Bool) (n : Int) (k : Nat) : psL pl vl n (k + 1) = psL pl vl n k ++ [parP pl vl n k] := by
  unfold psL
  rw [List.range_succ, List.map_append]; rfl
theorem psL_len (pl : List Int) (vl : List Bool) (n : Int) (k : Nat) : (psL pl vl n k).length = k := by simp [psL]
def flP (l : List (Bool × Int)) : List Value := l.flatMap encPa
theorem flP_next (l : List (Bool × Int)) (x : Bool × Int) : flP (l ++ [x]) = flP l ++ [.bool x.1, .int .i64 x.2] := by
  unfold flP
  rw [List.flatMap_append]; rfl
theorem flP_at : ∀ (l : List (Bool × Int)) (i : Nat) (x : Bool × Int), l[i]? = some x → ∀ (j : Nat) v, (encPa x)[j]? = some v → (flP l)[i * 2 + j]? = some v
  | [], i, x, h, _, _, _ => by simp at h
  | y :: r, 0, x, h, j, v, hv => by
    simp only [List.getElem?_cons_zero, Option.some.injEq] at h
    subst h
    have hj : j < 2 := (List.getElem?_eq_some_iff.1 hv).1
    unfold flP
    rw [List.flatMap_cons, List.getElem?_append_left (by show 0 * 2 + j < 2; omega), Nat.zero_mul, Nat.zero_add]
    exact hv
  | y :: r, i + 1, x, h, j, v, hv => by
    have ih := flP_at r i x (by simpa using h) j v hv
    unfold flP at *
    rw [List.flatMap_cons, List.getElem?_append_right (by show 2 ≤ (i + 1) * 2 + j; omega)]
    rw [show (i + 1) * 2 + j - (encPa y).length = i * 2 + j from by show (i + 1) * 2 + j - 2 = _; omega]
    exact ih
theorem own_base {w : World} {B : Nat} {e : TypeId} {st n j : Nat} {v : Value} {xs : List Value} (h : w.ownsRow B e st v n xs) (hj : v.ownBlock = some j) : B ≤ j := by
  rcases h.2 with ⟨e1, _⟩ | ⟨g, cap, cur, e1, e2, _⟩
  · rw [e1] at hj; cases hj
  · rw [e1] at hj
    simp only [Value.ownBlock, Option.some.injEq] at hj
    omega
theorem row_of_own {w : World} {B : Nat} {u : Sl} {l : List (Bool × Int)} (h : w.ownsRow B 65 2 (.slice u.p u.n u.c) l.length (flP l)) : Row w B u encPa 2 l := by
  obtain ⟨p, n, c⟩ := u
  simp only at h
  rcases h.2 with ⟨e1, e2⟩ | ⟨g, cap, cur, e1, e2, e3, _⟩
  · injection e1 with e1 e4 e5
    obtain rfl : l = [] := List.length_eq_zero_iff.1 e2
    subst e1 e4 e5
    exact row_nil _ _ _ _
  · injection e1 with e1 e4 e5
    subst e1 e4 e5
    refine ⟨rfl, fun hl => ⟨g, 0, rfl, e2, (Array.getElem?_eq_some_iff.1 e3).1, fun i x hx j v hv => ?_, fun _ j _ => by simp [World.frozen?, e3]⟩⟩
    have hi : i < l.length := (List.getElem?_eq_some_iff.1 hx).1
    have hj : j < 2 := (List.getElem?_eq_some_iff.1 hv).1
    rw [Nat.zero_add, h.cellAt (i * 2 + j) (by omega)]
    exact flP_at l i x hx j v hv
theorem own_on {w w' : World} {B : Nat} {e : TypeId} {st n : Nat} {v : Value} {xs : List Value} (h : w.ownsRow B e st v n xs) (hb : ∀ j, v.ownBlock = some j → w'.heap[j]? = w.heap[j]?) : w'.ownsRow B e st v n xs := by
  refine ⟨h.1, ?_⟩
  rcases h.2 with e1 | ⟨g, cap, cur, e1, e2, e3, e4⟩
  · exact .inl e1
  · exact .inr ⟨g, cap, cur, e1, e2, (hb g (by rw [e1]; rfl)).trans e3, e4⟩
theorem infoPaP : (Try.prog.info? 65).map (fun i => (i.zero, i.size, i.bytes)) = some (some (.agg #[.bool false, .int .i64 0]), 2, 16) := infoPa
theorem own_bl {w w' : World} {B : Nat} {e : TypeId} {st n : Nat} {v : Value} {xs : List Value} (h : w.ownsRow B e st v n xs) (k : Bl w w') : w'.ownsRow B e st v n xs := by
  refine ⟨h.1, ?_⟩
  rcases h.2 with e1 | ⟨g, cap, cur, e1, e2, e3, e4⟩
  · exact .inl e1
  · exact .inr ⟨g, cap, cur, e1, e2, (k.block g (Array.getElem?_eq_some_iff.1 e3).1).trans e3, e4⟩
/-- Made.Type under way. -/
structure Lp (w : World) (W : Nat) (ma ya : Array Value) (u : Sl) (yz : Sl → Array Value) (l : List (Bool × Int)) (wr : World) : Prop where
  b : Bl w wr
  m : Bx wr W 51 ma
  r : Bx wr (W + 1) 43 ya
  x : Bx wr (W + 2) 43 (yz u)
  o : wr.ownsRow (W + 3) 65 2 (.slice u.p u.n u.c) l.length (flP l)
  s : W + 3 ≤ wr.heap.size
/-- What a type is made of. -/
structure MaV where
  k : Int
  b : Int
  x : Int
  lo : Int
  hi : Int
  ps : Sl
  vs : Sl
abbrev MaV.val (m : MaV) : Value := .agg #[.int .u8 m.k, .int .u16 m.b, .int .u16 m.x, .int .i32 m.lo, .int .i32 m.hi, .slice m.ps.p m.ps.n m.ps.c, .slice m.vs.p m.vs.n m.vs.c]
def encU (e : Int) : List Value := [.int .u16 e]
def encB (e : Bool) : List Value := [.bool e]
structure MaOk (m : MaV) (pl : List Int) : Prop where
  k : 0 ≤ m.k ∧ m.k ≤ 255
  b : 0 ≤ m.b ∧ m.b ≤ 65535
  x : 0 ≤ m.x ∧ m.x ≤ 65535
  lo : -2147483648 ≤ m.lo ∧ m.lo ≤ 2147483647
  hi : -2147483648 ≤ m.hi ∧ m.hi ≤ 2147483647
  ps : ∀ p ∈ pl, 0 ≤ p ∧ p ≤ 65535
def madeK (k b x lo hi n : Int) (l : List (Bool × Int)) : TyK := ⟨k % 12 + 7, ⟨#[]⟩, ⟨#[]⟩, b % n, x % n, lo, hi, [], [], [], l, x % n⟩
theorem wrapI {n : Int} (h : -9223372036854775808 ≤ n ∧ n ≤ 9223372036854775807) : IntKind.i64.wrap n = n := by
  simp [IntKind.wrap, IntKind.bits, IntKind.signed]
  omega
theorem lp_next {w w4 : World} {W g' cap' k : Nat} {ma ya : Array Value} {yz : Sl → Array Value} {u : Sl} {l l' : List (Bool × Int)} {x : Bool × Int} (K4 : Bl w w4) (M4 : Bx w4 W 51 ma) (R4 : Bx w4 (W + 1) 43 ya) (X4 : Bx w4 (W + 2) 43 (yz u))
    (hown : w4.ownsRow (W + 3) 65 2 (.slice (some ⟨g', 0, none⟩) (k + 1) cap') (k + 1) (flP l ++ [.bool x.1, .int .i64 x.2])) (hl : l' = l ++ [x]) (hk : l.length = k) (hlt : g' < w4.heap.size) (hW : w.heap.size ≤ W) (hy : ∀ v : Sl, (yz u).setIfInBounds 10 (.slice v.p v.n v.c) = yz v) :
    Lp w W ma ya ⟨some ⟨g', 0, none⟩, k + 1, cap'⟩ yz l' (w4.setCell ⟨W + 2, 10, none⟩ (.slice (some ⟨g', 0, none⟩) (k + 1) cap')) := by
  have hg := own_base hown (j := g') rfl
  refine ⟨K4.setCell (by show w.heap.size ≤ W + 2; omega) _, M4.off1 (by omega) _ _, R4.off1 (by omega) _ _, ?_, ?_, by simp; omega⟩
  · have := X4.cell 10 (.slice (some ⟨g', 0, none⟩) (k + 1) cap')
    rw [show (yz u).setIfInBounds 10 (.slice (some ⟨g', 0, none⟩) (k + 1) cap') = yz ⟨some ⟨g', 0, none⟩, k + 1, cap'⟩ from hy ⟨some ⟨g', 0, none⟩, k + 1, cap'⟩] at this
    exact this
  · rw [hl, List.length_append, hk, flP_next]
    refine own_on hown (fun j hj => ?_)
    simp only [Value.ownBlock, Option.some.injEq] at hj
    subst hj
    simp [World.setCell, Array.getElem?_modify, show ¬ W + 2 = g' by omega]
theorem mtype_any (m : MaV) (pl : List Int) (vl : List Bool) (n : Int) (w : World) (ho : MaOk m pl) (hp : Row w 0 m.ps encU 1 pl) (hv : Row w 0 m.vs encB 1 vl) (hn : 1 ≤ n ∧ n ≤ 2000) : Calls Try.prog 21 #[m.val, .int .i64 n] w fun e w' => ∃ y : TyV, e = .returned y.val ∧ Bl w w' ∧ Has w' w.heap.size y (madeK m.k m.b m.x m.lo m.hi n (psL pl vl n (min pl.length 6))) := by
  obtain ⟨mk, mb, mx, mlo, mhi, ⟨pp, pn, pc⟩, ⟨vp, vn, vc⟩⟩ := m
  obtain ⟨ok, ob, ox, olo, ohi, ops⟩ := ho
  have hpn := hp.n
  have hvn := hv.n
  simp only at ok ob ox olo ohi hpn hvn ⊢
  subst hpn hvn
  obtain ⟨m6, hm6⟩ : ∃ m6, min pl.length 6 = m6 := ⟨_, rfl⟩
  rw [hm6]
  have HM6 := Lib.hid hm6
  clear hm6
  have hn0 : (n == 0) = false := beq_eq_false_iff_ne.2 (by omega)
  have hn1 : ¬ n = 0 := by omega
  have hwb : IntKind.i64.wrap mb = mb := wrapI (by omega)
  have hwx : IntKind.i64.wrap mx = mx := wrapI (by omega)
  have hwl : IntKind.i64.wrap mlo = mlo := wrapI (by omega)
  have hwh : IntKind.i64.wrap mhi = mhi := wrapI (by omega)
  have hkk : IntKind.u8.wrap (mk.tmod 12 + 7) = mk % 12 + 7 := by
    rw [Int.tmod_eq_emod_of_nonneg ok.1]
    simp [IntKind.wrap, IntKind.bits, IntKind.signed]
    omega
  have hbn : mb.tmod n = mb % n := Int.tmod_eq_emod_of_nonneg ob.1
  have hxn : mx.tmod n = mx % n := Int.tmod_eq_emod_of_nonneg ox.1
  have HH := Lib.hid (And.intro hp (And.intro hv (And.intro ok (And.intro ob (And.intro ox (And.intro olo (And.intro ohi ops)))))))
  clear hp hv
  go_enter Try.func21, Try.ntmps21
  go_upto_region 1 with fail
  obtain ⟨w0, hw0⟩ : ∃ w0, (w.alloc (.cells #[.int .u8 mk, .int .u16 mb, .int .u16 mx, .int .i32 mlo, .int .i32 mhi, .slice pp pl.length pc, .slice vp vl.length vc] 51)).alloc (.cells #[.int .u8 0, .string ⟨#[]⟩, .string ⟨#[]⟩, .int .i64 0, .int .i64 0, .int .i64 0, .int .i64 0, .slice none 0 0, .slice none 0 0, .slice none 0 0, .slice none 0 0, .int .i64 0] 43) = w0 := ⟨_, rfl⟩
  rw [hw0]
  have X0 : Bx w0 w.heap.size 51 #[.int .u8 mk, .int .u16 mb, .int .u16 mx, .int .i32 mlo, .int .i32 mhi, .slice pp pl.length pc, .slice vp vl.length vc] := by rw [← hw0]; exact (Bx.new _ _ _).on (bl_new _ _)
  have Y0 : Bx w0 (w.heap.size + 1) 43 #[.int .u8 0, .string ⟨#[]⟩, .string ⟨#[]⟩, .int .i64 0, .int .i64 0, .int .i64 0, .int .i64 0, .slice none 0 0, .slice none 0 0, .slice none 0 0, .slice none 0 0, .int .i64 0] := by rw [← hw0]; have := Bx.new (w.alloc (.cells #[.int .u8 mk, .int .u16 mb, .int .u16 mx, .int .i32 mlo, .int .i32 mhi, .slice pp pl.length pc, .slice vp vl.length vc] 51)) 43 #[.int .u8 0, .string ⟨#[]⟩, .string ⟨#[]⟩, .int .i64 0, .int .i64 0, .int .i64 0, .int .i64 0, .slice none 0 0, .slice none 0 0, .slice none 0 0, .slice none 0 0, .int .i64 0]; simpa using this
  have K0 : Bl w w0 := by rw [← hw0]; exact (bl_new _ _).on (bl_new _ _)
  have HS0 : Hid (w0.heap.size = w.heap.size + 2) := Lib.hid (by rw [← hw0]; simp)
  clear hw0
  have HSS : ∀ w', Bl w0 w' → (w'.cell? ⟨w.heap.size, 0, none⟩ = some (.int .u8 mk) ∧ w'.cell? ⟨w.heap.size, 1, none⟩ = some (.int .u16 mb) ∧ w'.cell? ⟨w.heap.size, 2, none⟩ = some (.int .u16 mx) ∧ w'.cell? ⟨w.heap.size, 3, none⟩ = some (.int .i32 mlo) ∧ w'.cell? ⟨w.heap.size, 4, none⟩ = some (.int .i32 mhi)) := fun w' k => ⟨((X0.on k).at 0).1, ((X0.on k).at 1).1, ((X0.on k).at 2).1, ((X0.on k).at 3).1, ((X0.on k).at 4).1⟩
  refine region_l 27 (S := fun w' => (w'.cell? ⟨w.heap.size, 0, none⟩ = some (.int .u8 mk) ∧ w'.cell? ⟨w.heap.size, 1, none⟩ = some (.int .u16 mb) ∧ w'.cell? ⟨w.heap.size, 2, none⟩ = some (.int .u16 mx) ∧ w'.cell? ⟨w.heap.size, 3, none⟩ = some (.int .i32 mlo) ∧ w'.cell? ⟨w.heap.size, 4, none⟩ = some (.int .i32 mhi))) (by kernel_rfl) ?_ (fun hHeld => ?_)
  · exact HSS _ (bl_drew w0)
  refine anyL_take (k := 28) (i := 0) (v := ?_) rfl (by kernel_rfl) (by kernel_rfl) (by kernel_rfl) (by kernel_rfl) (fun _ _ _ h => h) (Or.inl ⟨by rfl, ?_⟩) (by assumption) ?_
  rotate_left
  · intro w hSw; (try dsimp only at hSw); go_simp; try with_reducible rfl
  simp only [Act.put, List.setIfInBounds_toArray, List.set_cons_zero, List.set_cons_succ, List.getElem_toArray, List.getElem_cons_zero, List.getElem_cons_succ]
  refine anyL_take (k := 28) (i := 1) (v := ?_) rfl (by kernel_rfl) (by kernel_rfl) (by kernel_rfl) (by kernel_rfl) (fun _ _ _ h => h) (Or.inl ⟨by rfl, ?_⟩) (by assumption) ?_
  rotate_left
  · intro w hSw; (try dsimp only at hSw); go_simp; try with_reducible rfl
  simp only [Act.put, List.setIfInBounds_toArray, List.set_cons_zero, List.set_cons_succ, List.getElem_toArray, List.getElem_cons_zero, List.getElem_cons_succ]
  refine anyL_take (k := 28) (i := 2) (v := ?_) rfl (by kernel_rfl) (by kernel_rfl) (by kernel_rfl) (by kernel_rfl) (fun _ _ _ h => h) (Or.inl ⟨by rfl, ?_⟩) (by assumption) ?_
  rotate_left
  · intro w hSw; (try dsimp only at hSw); go_simp; try with_reducible rfl
  simp only [Act.put, List.setIfInBounds_toArray, List.set_cons_zero, List.set_cons_succ, List.getElem_toArray, List.getElem_cons_zero, List.getElem_cons_succ]
  refine anyL_take (k := 28) (i := 3) (v := ?_) rfl (by kernel_rfl) (by kernel_rfl) (by kernel_rfl) (by kernel_rfl) (fun _ _ _ h => h) (Or.inl ⟨by rfl, ?_⟩) (by assumption) ?_
  rotate_left
  · intro w hSw; (try dsimp only at hSw); go_simp; try with_reducible rfl
  simp only [Act.put, List.setIfInBounds_toArray, List.set_cons_zero, List.set_cons_succ, List.getElem_toArray, List.getElem_cons_zero, List.getElem_cons_succ]
  refine anyL_take (k := 28) (i := 4) (v := ?_) rfl (by kernel_rfl) (by kernel_rfl) (by kernel_rfl) (by kernel_rfl) (fun _ _ _ h => h) (Or.inl ⟨by rfl, ?_⟩) (by assumption) ?_
  rotate_left
  · intro w hSw; (try dsimp only at hSw); go_simp; try with_reducible rfl
  simp only [Act.put, List.setIfInBounds_toArray, List.set_cons_zero, List.set_cons_succ, List.getElem_toArray, List.getElem_cons_zero, List.getElem_cons_succ]
  refine anyL_take (k := 28) (i := 5) (v := ?_) rfl (by kernel_rfl) (by kernel_rfl) (by kernel_rfl) (by kernel_rfl) (fun _ _ _ h => h) (Or.inl ⟨by rfl, ?_⟩) (by assumption) ?_
  rotate_left
  · intro w hSw; (try dsimp only at hSw); go_simp; try with_reducible rfl
  simp only [Act.put, List.setIfInBounds_toArray, List.set_cons_zero, List.set_cons_succ, List.getElem_toArray, List.getElem_cons_zero, List.getElem_cons_succ]
  refine anyL_take (k := 28) (i := 6) (v := ?_) rfl (by kernel_rfl) (by kernel_rfl) (by kernel_rfl) (by kernel_rfl) (fun _ _ _ h => h) (Or.inl ⟨by rfl, ?_⟩) (by assumption) ?_
  rotate_left
  · intro w hSw; (try dsimp only at hSw); go_simp; try with_reducible rfl
  simp only [Act.put, List.setIfInBounds_toArray, List.set_cons_zero, List.set_cons_succ, List.getElem_toArray, List.getElem_cons_zero, List.getElem_cons_succ]
  refine anyL_take (k := 28) (i := 7) (v := ?_) rfl (by kernel_rfl) (by kernel_rfl) (by kernel_rfl) (by kernel_rfl) (fun _ _ _ h => h) (Or.inl ⟨by rfl, ?_⟩) (by assumption) ?_
  rotate_left
  · intro w hSw; (try dsimp only at hSw); go_simp; try with_reducible rfl
  simp only [Act.put, List.setIfInBounds_toArray, List.set_cons_zero, List.set_cons_succ, List.getElem_toArray, List.getElem_cons_zero, List.getElem_cons_succ]
  refine anyL_take (k := 28) (i := 8) (v := ?_) rfl (by kernel_rfl) (by kernel_rfl) (by kernel_rfl) (by kernel_rfl) (fun _ _ _ h => h) (Or.inl ⟨by rfl, ?_⟩) (by assumption) ?_
  rotate_left
  · intro w hSw; (try dsimp only at hSw); go_simp; try with_reducible rfl
  simp only [Act.put, List.setIfInBounds_toArray, List.set_cons_zero, List.set_cons_succ, List.getElem_toArray, List.getElem_cons_zero, List.getElem_cons_succ]
  refine anyL_take (k := 28) (i := 9) (v := ?_) rfl (by kernel_rfl) (by kernel_rfl) (by kernel_rfl) (by kernel_rfl) (fun _ _ _ h => h) (Or.inl ⟨by rfl, ?_⟩) (by assumption) ?_
  rotate_left
  · intro w hSw; (try dsimp only at hSw); go_simp; try with_reducible rfl
  simp only [Act.put, List.setIfInBounds_toArray, List.set_cons_zero, List.set_cons_succ, List.getElem_toArray, List.getElem_cons_zero, List.getElem_cons_succ]
  refine anyL_take (k := 28) (i := 10) (v := ?_) rfl (by kernel_rfl) (by kernel_rfl) (by kernel_rfl) (by kernel_rfl) (fun _ _ _ h => h) (Or.inl ⟨by rfl, ?_⟩) (by assumption) ?_
  rotate_left
  · intro w hSw; (try dsimp only at hSw); go_simp; try with_reducible rfl
  simp only [Act.put, List.setIfInBounds_toArray, List.set_cons_zero, List.set_cons_succ, List.getElem_toArray, List.getElem_cons_zero, List.getElem_cons_succ]
  refine anyL_take (k := 28) (i := 11) (v := ?_) rfl (by kernel_rfl) (by kernel_rfl) (by kernel_rfl) (by kernel_rfl) (fun _ _ _ h => h) (Or.inl ⟨by rfl, ?_⟩) (by assumption) ?_
  rotate_left
  · intro w hSw; (try dsimp only at hSw); go_simp; try with_reducible rfl
  simp only [Act.put, List.setIfInBounds_toArray, List.set_cons_zero, List.set_cons_succ, List.getElem_toArray, List.getElem_cons_zero, List.getElem_cons_succ]
  refine anyL_take (k := 28) (i := 12) (v := ?_) rfl (by kernel_rfl) (by kernel_rfl) (by kernel_rfl) (by kernel_rfl) (fun _ _ _ h => h) (Or.inl ⟨by rfl, ?_⟩) (by assumption) ?_
  rotate_left
  · intro w hSw; (try dsimp only at hSw); go_simp; try with_reducible rfl
  simp only [Act.put, List.setIfInBounds_toArray, List.set_cons_zero, List.set_cons_succ, List.getElem_toArray, List.getElem_cons_zero, List.getElem_cons_succ]
  refine anyL_take (k := 28) (i := 13) (v := ?_) rfl (by kernel_rfl) (by kernel_rfl) (by kernel_rfl) (by kernel_rfl) (fun _ _ _ h => h) (Or.inl ⟨by rfl, ?_⟩) (by assumption) ?_
  rotate_left
  · intro w hSw; (try dsimp only at hSw); go_simp; try with_reducible rfl
  simp only [Act.put, List.setIfInBounds_toArray, List.set_cons_zero, List.set_cons_succ, List.getElem_toArray, List.getElem_cons_zero, List.getElem_cons_succ]
  refine anyL_take (k := 28) (i := 14) (v := ?_) rfl (by kernel_rfl) (by kernel_rfl) (by kernel_rfl) (by kernel_rfl) (fun _ _ _ h => h) (Or.inl ⟨by rfl, ?_⟩) (by assumption) ?_
  rotate_left
  · intro w hSw; (try dsimp only at hSw); go_simp; try with_reducible rfl
  simp only [Act.put, List.setIfInBounds_toArray, List.set_cons_zero, List.set_cons_succ, List.getElem_toArray, List.getElem_cons_zero, List.getElem_cons_succ]
  refine anyL_take (k := 28) (i := 15) (v := ?_) rfl (by kernel_rfl) (by kernel_rfl) (by kernel_rfl) (by kernel_rfl) (fun _ _ _ h => h) (Or.inl ⟨by rfl, ?_⟩) (by assumption) ?_
  rotate_left
  · intro w hSw; (try dsimp only at hSw); go_simp; try with_reducible rfl
  simp only [Act.put, List.setIfInBounds_toArray, List.set_cons_zero, List.set_cons_succ, List.getElem_toArray, List.getElem_cons_zero, List.getElem_cons_succ]
  refine anyL_take (k := 28) (i := 16) (v := ?_) rfl (by kernel_rfl) (by kernel_rfl) (by kernel_rfl) (by kernel_rfl) (fun _ _ _ h => h) (Or.inl ⟨by rfl, ?_⟩) (by assumption) ?_
  rotate_left
  · intro w hSw; (try dsimp only at hSw); go_simp; try with_reducible rfl
  simp only [Act.put, List.setIfInBounds_toArray, List.set_cons_zero, List.set_cons_succ, List.getElem_toArray, List.getElem_cons_zero, List.getElem_cons_succ]
  refine anyL_take (k := 28) (i := 17) (v := ?_) rfl (by kernel_rfl) (by kernel_rfl) (by kernel_rfl) (by kernel_rfl) (fun _ _ _ h => h) (Or.inl ⟨by rfl, ?_⟩) (by assumption) ?_
  rotate_left
  · intro w hSw; (try dsimp only at hSw); go_simp; try with_reducible rfl
  simp only [Act.put, List.setIfInBounds_toArray, List.set_cons_zero, List.set_cons_succ, List.getElem_toArray, List.getElem_cons_zero, List.getElem_cons_succ]
  refine anyL_take (k := 28) (i := 18) (v := ?_) rfl (by kernel_rfl) (by kernel_rfl) (by kernel_rfl) (by kernel_rfl) (fun _ _ _ h => h) (Or.inl ⟨by rfl, ?_⟩) (by assumption) ?_
  rotate_left
  · intro w hSw; (try dsimp only at hSw); go_simp; try with_reducible rfl
  simp only [Act.put, List.setIfInBounds_toArray, List.set_cons_zero, List.set_cons_succ, List.getElem_toArray, List.getElem_cons_zero, List.getElem_cons_succ]
  refine anyL_take (k := 28) (i := 19) (v := ?_) rfl (by kernel_rfl) (by kernel_rfl) (by kernel_rfl) (by kernel_rfl) (fun _ _ _ h => h) (Or.inl ⟨by rfl, ?_⟩) (by assumption) ?_
  rotate_left
  · intro w hSw; (try dsimp only at hSw); go_simp; try with_reducible rfl
  simp only [Act.put, List.setIfInBounds_toArray, List.set_cons_zero, List.set_cons_succ, List.getElem_toArray, List.getElem_cons_zero, List.getElem_cons_succ]
  refine anyL_take (k := 28) (i := 20) (v := ?_) rfl (by kernel_rfl) (by kernel_rfl) (by kernel_rfl) (by kernel_rfl) (fun _ _ _ h => h) (Or.inl ⟨by rfl, ?_⟩) (by assumption) ?_
  rotate_left
  · intro w hSw; (try dsimp only at hSw); go_simp; try with_reducible rfl
  simp only [Act.put, List.setIfInBounds_toArray, List.set_cons_zero, List.set_cons_succ, List.getElem_toArray, List.getElem_cons_zero, List.getElem_cons_succ]
  refine anyL_take (k := 28) (i := 21) (v := ?_) rfl (by kernel_rfl) (by kernel_rfl) (by kernel_rfl) (by kernel_rfl) (fun _ _ _ h => h) (Or.inl ⟨by rfl, ?_⟩) (by assumption) ?_
  rotate_left
  · intro w hSw; (try dsimp only at hSw); go_simp; try with_reducible rfl
  simp only [Act.put, List.setIfInBounds_toArray, List.set_cons_zero, List.set_cons_succ, List.getElem_toArray, List.getElem_cons_zero, List.getElem_cons_succ]
  refine anyL_take (k := 28) (i := 22) (v := ?_) rfl (by kernel_rfl) (by kernel_rfl) (by kernel_rfl) (by kernel_rfl) (fun _ _ _ h => h) (Or.inl ⟨by rfl, ?_⟩) (by assumption) ?_
  rotate_left
  · intro w hSw; (try dsimp only at hSw); go_simp; try with_reducible rfl
  simp only [Act.put, List.setIfInBounds_toArray, List.set_cons_zero, List.set_cons_succ, List.getElem_toArray, List.getElem_cons_zero, List.getElem_cons_succ]
  refine anyL_take (k := 28) (i := 23) (v := ?_) rfl (by kernel_rfl) (by kernel_rfl) (by kernel_rfl) (by kernel_rfl) (fun _ _ _ h => h) (Or.inl ⟨by rfl, ?_⟩) (by assumption) ?_
  rotate_left
  · intro w hSw; (try dsimp only at hSw); go_simp; try with_reducible rfl
  simp only [Act.put, List.setIfInBounds_toArray, List.set_cons_zero, List.set_cons_succ, List.getElem_toArray, List.getElem_cons_zero, List.getElem_cons_succ]
  refine anyL_take (k := 28) (i := 24) (v := ?_) rfl (by kernel_rfl) (by kernel_rfl) (by kernel_rfl) (by kernel_rfl) (fun _ _ _ h => h) (Or.inl ⟨by rfl, ?_⟩) (by assumption) ?_
  rotate_left
  · intro w hSw; (try dsimp only at hSw); go_simp; try with_reducible rfl
  simp only [Act.put, List.setIfInBounds_toArray, List.set_cons_zero, List.set_cons_succ, List.getElem_toArray, List.getElem_cons_zero, List.getElem_cons_succ]
  refine anyL_take (k := 28) (i := 25) (v := ?_) rfl (by kernel_rfl) (by kernel_rfl) (by kernel_rfl) (by kernel_rfl) (fun _ _ _ h => h) (Or.inl ⟨by rfl, ?_⟩) (by assumption) ?_
  rotate_left
  · intro w hSw; (try dsimp only at hSw); go_simp; try with_reducible rfl
  simp only [Act.put, List.setIfInBounds_toArray, List.set_cons_zero, List.set_cons_succ, List.getElem_toArray, List.getElem_cons_zero, List.getElem_cons_succ]
  refine anyL_ready (rs := [26]) (by kernel_rfl) (by simp) ?_
  refine AllL.cons rfl (fun K hK => ?_) ?_
  rotate_left
  · exact AllL.nil
  go_simp
  refine hK.out _ _ (HSS _ ((bl_new w0 (.cells #[.int .u8 0, .string ⟨#[]⟩, .string ⟨#[]⟩, .int .i64 0, .int .i64 0, .int .i64 0, .int .i64 0, .slice none 0 0, .slice none 0 0, .slice none 0 0, .slice none 0 0, .int .i64 0] 43)).on (bl_drew _))) (fun hHeld => ?_)
  clear hK K
  try simp only [Act.put, List.setIfInBounds_toArray, List.set_cons_zero, List.set_cons_succ, List.getElem_toArray, List.getElem_cons_zero, List.getElem_cons_succ]
  refine anyL_ready (rs := [27]) (by kernel_rfl) (by simp) ?_
  refine AllL.last rfl (by kernel_rfl) (fun K hK => ?_) ?_
  rotate_left
  · exact AllL.nil
  go_simp
  refine hK.out _ _ ?_
  clear hK K
  try simp only [Act.put, List.setIfInBounds_toArray, List.set_cons_zero, List.set_cons_succ, List.getElem_toArray, List.getElem_cons_zero, List.getElem_cons_succ]
  refine anyL_done (by kernel_rfl) ?_ _
  have LP0 : Lp w w.heap.size #[.int .u8 mk, .int .u16 mb, .int .u16 mx, .int .i32 mlo, .int .i32 mhi, .slice pp pl.length pc, .slice vp vl.length vc] #[.int .u8 0, .string ⟨#[]⟩, .string ⟨#[]⟩, .int .i64 0, .int .i64 0, .int .i64 0, .int .i64 0, .slice none 0 0, .slice none 0 0, .slice none 0 0, .slice none 0 0, .int .i64 0] .no (fun u => #[.int .u8 (mk % 12 + 7), .string ⟨#[]⟩, .string ⟨#[]⟩, .int .i64 (mb % n), .int .i64 (mx % n), .int .i64 mlo, .int .i64 mhi, .slice none 0 0, .slice none 0 0, .slice none 0 0, .slice u.p u.n u.c, .int .i64 (mx % n)]) (psL pl vl n 0) ((w0.alloc (.cells #[.int .u8 (mk % 12 + 7), .string ⟨#[]⟩, .string ⟨#[]⟩, .int .i64 (mb % n), .int .i64 (mx % n), .int .i64 mlo, .int .i64 mhi, .slice none 0 0, .slice none 0 0, .slice none 0 0, .slice none 0 0, .int .i64 (mx % n)] 43)).drew) := by
    have hs0 : w0.heap.size = w.heap.size + 2 := HS0.out
    refine ⟨(K0.on (bl_new _ _)).on (bl_drew _), ((X0.on (bl_new _ _)).on (bl_drew _)), ((Y0.on (bl_new _ _)).on (bl_drew _)), ?_, ⟨rfl, .inl ⟨rfl, rfl⟩⟩, ?_⟩
    · rw [← hs0]
      exact (Bx.new w0 43 _).on (bl_drew _)
    · show w.heap.size + 3 ≤ (w0.alloc _).heap.size
      simp [hs0]
  have HL0 := Lib.hid LP0
  clear LP0 HSS hHeld X0 Y0 K0
  rw [HS0.out]
  obtain ⟨W, hW⟩ : ∃ W, w.heap.size = W := ⟨_, rfl⟩
  rw [hW] at HL0 ⊢
  go_wp2_with fail
  clear hkk hbn hxn hwb hwx hwl hwh ok ob ox olo ohi
  have hyz : ∀ u : Sl, #[.int .u8 (mk % 12 + 7), .string ⟨#[]⟩, .string ⟨#[]⟩, .int .i64 (mb % n), .int .i64 (mx % n), .int .i64 mlo, .int .i64 mhi, .slice none 0 0, .slice none 0 0, .slice none 0 0, .slice u.p u.n u.c, .int .i64 (mx % n)] = (⟨mk % 12 + 7, ⟨#[]⟩, ⟨#[]⟩, mb % n, mx % n, mlo, mhi, .no, .no, .no, u, mx % n⟩ : TyV).arr := fun u => rfl
  go_loopw [6] (fun s wr => ∃ (k : Nat) (u : Sl), k ≤ m6 ∧ s = .int .i64 k ∧ Lp w W #[.int .u8 mk, .int .u16 mb, .int .u16 mx, .int .i32 mlo, .int .i32 mhi, .slice pp pl.length pc, .slice vp vl.length vc] #[.int .u8 0, .string ⟨#[]⟩, .string ⟨#[]⟩, .int .i64 0, .int .i64 0, .int .i64 0, .int .i64 0, .slice none 0 0, .slice none 0 0, .slice none 0 0, .slice none 0 0, .int .i64 0] u (fun u => #[.int .u8 (mk % 12 + 7), .string ⟨#[]⟩, .string ⟨#[]⟩, .int .i64 (mb % n), .int .i64 (mx % n), .int .i64 mlo, .int .i64 mhi, .slice none 0 0, .slice none 0 0, .slice none 0 0, .slice u.p u.n u.c, .int .i64 (mx % n)]) (psL pl vl n k) wr) (fun s _ => m6 - (intOf s).toNat)
  case atStart => exact ⟨0, .no, Nat.zero_le _, rfl, HL0.out⟩
  case round =>
    obtain ⟨k, u, hk, rfl, hLp⟩ := hrel
    have HLP := Lib.hid hLp
    have x5 := (hLp.m.at 5).1
    have x6 := (hLp.m.at 6).1
    have y10 := (hLp.x.at 10).1
    simp only [List.getElem?_toArray, List.getElem?_cons_zero, List.getElem?_cons_succ] at x5 x6 y10
    clear hLp HL0
    by_cases hlt : k < m6
    · have hh1 : m6 ≤ pl.length := by rw [← HM6.out]; exact Nat.min_le_left _ _
      have hh2 : m6 ≤ 6 := by rw [← HM6.out]; exact Nat.min_le_right _ _
      have h1 : k < pl.length := by omega
      have h2 : k < 6 := by omega
      have d1 : decide ((k : Int) < (pl.length : Int)) = true := decide_eq_true (by omega)
      have d2 : decide ((k : Int) < 6) = true := decide_eq_true (by omega)
      obtain ⟨g, o, hg1, _, hg2, hg3, _⟩ := HH.out.1.c (List.ne_nil_of_length_pos (by omega))
      simp only at hg1
      obtain rfl := hg1
      obtain ⟨q, hq⟩ : ∃ q, pl[k]? = some q := ⟨_, List.getElem?_eq_getElem h1⟩
      have hqo := ops q (List.mem_of_getElem? hq)
      have hqc : ∀ w', Bl w w' → w'.cell? ⟨g, o + k, none⟩ = some (.int .u16 q) := fun w' b => by
        have := hg3 k q hq 0 _ rfl
        simp only [Nat.mul_one, Nat.add_zero] at this
        exact (b.cell (p := ⟨g, _, none⟩) hg2).trans this
      have hqn : q.tmod n = q % n := Int.tmod_eq_emod_of_nonneg hqo.1
      have hqw : IntKind.i64.wrap q = q := wrapI (by omega)
      have hgd : pl.getD k 0 = q := by simp [List.getD, hq]
      obtain ⟨i0, hi, hz0, hz1, hz2⟩ := info_row infoPaP
      go_upto_region 5 with fail
      by_cases h3 : k < vl.length
      · have d3 : decide ((k : Int) < (vl.length : Int)) = true := decide_eq_true (by omega)
        obtain ⟨g2, o2, hh1, _, hh2, hh3, _⟩ := HH.out.2.1.c (List.ne_nil_of_length_pos (by omega))
        simp only at hh1
        obtain rfl := hh1
        obtain ⟨b, hb⟩ : ∃ b, vl[k]? = some b := ⟨_, List.getElem?_eq_getElem h3⟩
        have hbc : ∀ w', Bl w w' → w'.cell? ⟨g2, o2 + k, none⟩ = some (.bool b) := fun w' z => by
          have := hh3 k b hb 0 _ rfl
          simp only [Nat.mul_one, Nat.add_zero] at this
          exact (z.cell (p := ⟨g2, _, none⟩) hh2).trans this
        have hgb : vl.getD k false = b := by simp [List.getD, hb]
        have HSS : ∀ w', Bl wr w' → (w'.cell? ⟨W, 5, none⟩ = some (.slice (some ⟨g, o, none⟩) pl.length pc) ∧ w'.cell? ⟨W, 6, none⟩ = some (.slice (some ⟨g2, o2, none⟩) vl.length vc) ∧ w'.cell? ⟨W + 2, 10, none⟩ = some (.slice u.p u.n u.c) ∧ w'.cell? ⟨g, o + k, none⟩ = some (.int .u16 q) ∧ w'.cell? ⟨g2, o2 + k, none⟩ = some (.bool b)) := fun w' z => ⟨by have := ((HLP.out.m.on z).at 5).1; simpa using this, by have := ((HLP.out.m.on z).at 6).1; simpa using this, by have := ((HLP.out.x.on z).at 10).1; simpa using this, hqc w' (HLP.out.b.on z), hbc w' (HLP.out.b.on z)⟩
        have HPN := Lib.hid (show psL pl vl n (k + 1) = psL pl vl n k ++ [(b, q % n)] by rw [psL_next]; unfold parP; rw [hgd, hgb])
        have hOw : wr.ownsRow (W + 3) 65 2 (.slice u.p u.n u.c) k (flP (psL pl vl n k)) := by have := HLP.out.o; rw [psL_len] at this; exact this
        clear x5 x6 y10 hgd hgb hHeld
        refine region_l 26 (S := fun w' => w'.cell? ⟨W, 5, none⟩ = some (.slice (some ⟨g, o, none⟩) pl.length pc) ∧ w'.cell? ⟨W, 6, none⟩ = some (.slice (some ⟨g2, o2, none⟩) vl.length vc) ∧ w'.cell? ⟨W + 2, 10, none⟩ = some (.slice u.p u.n u.c) ∧ w'.cell? ⟨g, o + k, none⟩ = some (.int .u16 q) ∧ w'.cell? ⟨g2, o2 + k, none⟩ = some (.bool b)) (by kernel_rfl) ?_ (fun hHeld => ?_)
        · exact HSS _ (bl_drew wr)
        refine anyL_take (k := 28) (i := 0) (v := ?_) rfl (by kernel_rfl) (by kernel_rfl) (by kernel_rfl) (by kernel_rfl) (fun _ _ _ h => h) (Or.inl ⟨by rfl, ?_⟩) (by assumption) ?_
        rotate_left
        · intro w hSw; (try dsimp only at hSw); go_simp; try with_reducible rfl
        simp only [Act.put, List.setIfInBounds_toArray, List.set_cons_zero, List.set_cons_succ, List.getElem_toArray, List.getElem_cons_zero, List.getElem_cons_succ]
        refine anyL_take (k := 28) (i := 1) (v := ?_) rfl (by kernel_rfl) (by kernel_rfl) (by kernel_rfl) (by kernel_rfl) (fun _ _ _ h => h) (Or.inl ⟨by rfl, ?_⟩) (by assumption) ?_
        rotate_left
        · intro w hSw; (try dsimp only at hSw); go_simp; try with_reducible rfl
        simp only [Act.put, List.setIfInBounds_toArray, List.set_cons_zero, List.set_cons_succ, List.getElem_toArray, List.getElem_cons_zero, List.getElem_cons_succ]
        refine anyL_take (k := 28) (i := 2) (v := ?_) rfl (by kernel_rfl) (by kernel_rfl) (by kernel_rfl) (by kernel_rfl) (fun _ _ _ h => h) (Or.inl ⟨by rfl, ?_⟩) (by assumption) ?_
        rotate_left
        · intro w hSw; (try dsimp only at hSw); go_simp; try with_reducible rfl
        simp only [Act.put, List.setIfInBounds_toArray, List.set_cons_zero, List.set_cons_succ, List.getElem_toArray, List.getElem_cons_zero, List.getElem_cons_succ]
        refine anyL_take (k := 28) (i := 3) (v := ?_) rfl (by kernel_rfl) (by kernel_rfl) (by kernel_rfl) (by kernel_rfl) (fun _ _ _ h => h) (Or.inl ⟨by rfl, ?_⟩) (by assumption) ?_
        rotate_left
        · intro w hSw; (try dsimp only at hSw); go_simp; try with_reducible rfl
        simp only [Act.put, List.setIfInBounds_toArray, List.set_cons_zero, List.set_cons_succ, List.getElem_toArray, List.getElem_cons_zero, List.getElem_cons_succ]
        refine anyL_take (k := 28) (i := 4) (v := ?_) rfl (by kernel_rfl) (by kernel_rfl) (by kernel_rfl) (by kernel_rfl) (fun _ _ _ h => h) (Or.inl ⟨by rfl, ?_⟩) (by assumption) ?_
        rotate_left
        · intro w hSw; (try dsimp only at hSw); go_simp; try with_reducible rfl
        simp only [Act.put, List.setIfInBounds_toArray, List.set_cons_zero, List.set_cons_succ, List.getElem_toArray, List.getElem_cons_zero, List.getElem_cons_succ]
        refine anyL_take (k := 28) (i := 5) (v := ?_) rfl (by kernel_rfl) (by kernel_rfl) (by kernel_rfl) (by kernel_rfl) (fun _ _ _ h => h) (Or.inl ⟨by rfl, ?_⟩) (by assumption) ?_
        rotate_left
        · intro w hSw; (try dsimp only at hSw); go_simp; try with_reducible rfl
        simp only [Act.put, List.setIfInBounds_toArray, List.set_cons_zero, List.set_cons_succ, List.getElem_toArray, List.getElem_cons_zero, List.getElem_cons_succ]
        refine anyL_take (k := 28) (i := 6) (v := ?_) rfl (by kernel_rfl) (by kernel_rfl) (by kernel_rfl) (by kernel_rfl) (fun _ _ _ h => h) (Or.inl ⟨by rfl, ?_⟩) (by assumption) ?_
        rotate_left
        · intro w hSw; (try dsimp only at hSw); go_simp; try with_reducible rfl
        simp only [Act.put, List.setIfInBounds_toArray, List.set_cons_zero, List.set_cons_succ, List.getElem_toArray, List.getElem_cons_zero, List.getElem_cons_succ]
        refine anyL_take (k := 28) (i := 7) (v := ?_) rfl (by kernel_rfl) (by kernel_rfl) (by kernel_rfl) (by kernel_rfl) (fun _ _ _ h => h) (Or.inl ⟨by rfl, ?_⟩) (by assumption) ?_
        rotate_left
        · intro w hSw; (try dsimp only at hSw); go_simp; try with_reducible rfl
        simp only [Act.put, List.setIfInBounds_toArray, List.set_cons_zero, List.set_cons_succ, List.getElem_toArray, List.getElem_cons_zero, List.getElem_cons_succ]
        refine anyL_take (k := 28) (i := 8) (v := ?_) rfl (by kernel_rfl) (by kernel_rfl) (by kernel_rfl) (by kernel_rfl) (fun _ _ _ h => h) (Or.inl ⟨by rfl, ?_⟩) (by assumption) ?_
        rotate_left
        · intro w hSw; (try dsimp only at hSw); go_simp; try with_reducible rfl
        simp only [Act.put, List.setIfInBounds_toArray, List.set_cons_zero, List.set_cons_succ, List.getElem_toArray, List.getElem_cons_zero, List.getElem_cons_succ]
        refine anyL_take (k := 28) (i := 9) (v := ?_) rfl (by kernel_rfl) (by kernel_rfl) (by kernel_rfl) (by kernel_rfl) (fun _ _ _ h => h) (Or.inl ⟨by rfl, ?_⟩) (by assumption) ?_
        rotate_left
        · intro w hSw; (try dsimp only at hSw); go_simp; try with_reducible rfl
        simp only [Act.put, List.setIfInBounds_toArray, List.set_cons_zero, List.set_cons_succ, List.getElem_toArray, List.getElem_cons_zero, List.getElem_cons_succ]
        refine anyL_take (k := 28) (i := 10) (v := ?_) rfl (by kernel_rfl) (by kernel_rfl) (by kernel_rfl) (by kernel_rfl) (fun _ _ _ h => h) (Or.inl ⟨by rfl, ?_⟩) (by assumption) ?_
        rotate_left
        · intro w hSw; (try dsimp only at hSw); go_simp; try with_reducible rfl
        simp only [Act.put, List.setIfInBounds_toArray, List.set_cons_zero, List.set_cons_succ, List.getElem_toArray, List.getElem_cons_zero, List.getElem_cons_succ]
        refine anyL_take (k := 28) (i := 11) (v := ?_) rfl (by kernel_rfl) (by kernel_rfl) (by kernel_rfl) (by kernel_rfl) (fun _ _ _ h => h) (Or.inl ⟨by rfl, ?_⟩) (by assumption) ?_
        rotate_left
        · intro w hSw; (try dsimp only at hSw); go_simp; try with_reducible rfl
        simp only [Act.put, List.setIfInBounds_toArray, List.set_cons_zero, List.set_cons_succ, List.getElem_toArray, List.getElem_cons_zero, List.getElem_cons_succ]
        refine anyL_take (k := 28) (i := 12) (v := ?_) rfl (by kernel_rfl) (by kernel_rfl) (by kernel_rfl) (by kernel_rfl) (fun _ _ _ h => h) (Or.inl ⟨by rfl, ?_⟩) (by assumption) ?_
        rotate_left
        · intro w hSw; (try dsimp only at hSw); go_simp; try with_reducible rfl
        simp only [Act.put, List.setIfInBounds_toArray, List.set_cons_zero, List.set_cons_succ, List.getElem_toArray, List.getElem_cons_zero, List.getElem_cons_succ]
        refine anyL_take (k := 28) (i := 13) (v := ?_) rfl (by kernel_rfl) (by kernel_rfl) (by kernel_rfl) (by kernel_rfl) (fun _ _ _ h => h) (Or.inl ⟨by rfl, ?_⟩) (by assumption) ?_
        rotate_left
        · intro w hSw; (try dsimp only at hSw); go_simp; try with_reducible rfl
        simp only [Act.put, List.setIfInBounds_toArray, List.set_cons_zero, List.set_cons_succ, List.getElem_toArray, List.getElem_cons_zero, List.getElem_cons_succ]
        refine anyL_take (k := 28) (i := 14) (v := ?_) rfl (by kernel_rfl) (by kernel_rfl) (by kernel_rfl) (by kernel_rfl) (fun _ _ _ h => h) (Or.inl ⟨by rfl, ?_⟩) (by assumption) ?_
        rotate_left
        · intro w hSw; (try dsimp only at hSw); go_simp; try with_reducible rfl
        simp only [Act.put, List.setIfInBounds_toArray, List.set_cons_zero, List.set_cons_succ, List.getElem_toArray, List.getElem_cons_zero, List.getElem_cons_succ]
        refine anyL_take (k := 28) (i := 15) (v := ?_) rfl (by kernel_rfl) (by kernel_rfl) (by kernel_rfl) (by kernel_rfl) (fun _ _ _ h => h) (Or.inl ⟨by rfl, ?_⟩) (by assumption) ?_
        rotate_left
        · intro w hSw; (try dsimp only at hSw); go_simp; try with_reducible rfl
        simp only [Act.put, List.setIfInBounds_toArray, List.set_cons_zero, List.set_cons_succ, List.getElem_toArray, List.getElem_cons_zero, List.getElem_cons_succ]
        refine anyL_take (k := 28) (i := 16) (v := ?_) rfl (by kernel_rfl) (by kernel_rfl) (by kernel_rfl) (by kernel_rfl) (fun _ _ _ h => h) (Or.inl ⟨by rfl, ?_⟩) (by assumption) ?_
        rotate_left
        · intro w hSw; (try dsimp only at hSw); go_simp; try with_reducible rfl
        simp only [Act.put, List.setIfInBounds_toArray, List.set_cons_zero, List.set_cons_succ, List.getElem_toArray, List.getElem_cons_zero, List.getElem_cons_succ]
        refine anyL_take (k := 28) (i := 17) (v := ?_) rfl (by kernel_rfl) (by kernel_rfl) (by kernel_rfl) (by kernel_rfl) (fun _ _ _ h => h) (Or.inl ⟨by rfl, ?_⟩) (by assumption) ?_
        rotate_left
        · intro w hSw; (try dsimp only at hSw); go_simp; try with_reducible rfl
        simp only [Act.put, List.setIfInBounds_toArray, List.set_cons_zero, List.set_cons_succ, List.getElem_toArray, List.getElem_cons_zero, List.getElem_cons_succ]
        refine anyL_take (k := 28) (i := 18) (v := ?_) rfl (by kernel_rfl) (by kernel_rfl) (by kernel_rfl) (by kernel_rfl) (fun _ _ _ h => h) (Or.inl ⟨by rfl, ?_⟩) (by assumption) ?_
        rotate_left
        · intro w hSw; (try dsimp only at hSw); go_simp; try with_reducible rfl
        simp only [Act.put, List.setIfInBounds_toArray, List.set_cons_zero, List.set_cons_succ, List.getElem_toArray, List.getElem_cons_zero, List.getElem_cons_succ]
        refine anyL_take (k := 28) (i := 19) (v := ?_) rfl (by kernel_rfl) (by kernel_rfl) (by kernel_rfl) (by kernel_rfl) (fun _ _ _ h => h) (Or.inl ⟨by rfl, ?_⟩) (by assumption) ?_
        rotate_left
        · intro w hSw; (try dsimp only at hSw); go_simp; try with_reducible rfl
        simp only [Act.put, List.setIfInBounds_toArray, List.set_cons_zero, List.set_cons_succ, List.getElem_toArray, List.getElem_cons_zero, List.getElem_cons_succ]
        refine anyL_take (k := 28) (i := 20) (v := ?_) rfl (by kernel_rfl) (by kernel_rfl) (by kernel_rfl) (by kernel_rfl) (fun _ _ _ h => h) (Or.inl ⟨by rfl, ?_⟩) (by assumption) ?_
        rotate_left
        · intro w hSw; (try dsimp only at hSw); go_simp; try with_reducible rfl
        simp only [Act.put, List.setIfInBounds_toArray, List.set_cons_zero, List.set_cons_succ, List.getElem_toArray, List.getElem_cons_zero, List.getElem_cons_succ]
        refine anyL_take (k := 28) (i := 21) (v := ?_) rfl (by kernel_rfl) (by kernel_rfl) (by kernel_rfl) (by kernel_rfl) (fun _ _ _ h => h) (Or.inl ⟨by rfl, ?_⟩) (by assumption) ?_
        rotate_left
        · intro w hSw; (try dsimp only at hSw); go_simp; try with_reducible rfl
        simp only [Act.put, List.setIfInBounds_toArray, List.set_cons_zero, List.set_cons_succ, List.getElem_toArray, List.getElem_cons_zero, List.getElem_cons_succ]
        refine anyL_take (k := 28) (i := 22) (v := ?_) rfl (by kernel_rfl) (by kernel_rfl) (by kernel_rfl) (by kernel_rfl) (fun _ _ _ h => h) (Or.inl ⟨by rfl, ?_⟩) (by assumption) ?_
        rotate_left
        · intro w hSw; (try dsimp only at hSw); go_simp; try with_reducible rfl
        simp only [Act.put, List.setIfInBounds_toArray, List.set_cons_zero, List.set_cons_succ, List.getElem_toArray, List.getElem_cons_zero, List.getElem_cons_succ]
        refine anyL_ready (rs := [23]) (by kernel_rfl) (by simp) ?_
        refine AllL.cons rfl (fun K hK => ?_) ?_
        rotate_left
        · exact AllL.nil
        go_simp
        have KB : Bl wr ((wr.alloc (.cells #[.bool b, .int .i64 (q % n)] 65)).drew) := (bl_new _ _).on (bl_drew _)
        refine hK.out _ _ (HSS _ KB) (fun hHeld => ?_)
        clear hK K
        try simp only [Act.put, List.setIfInBounds_toArray, List.set_cons_zero, List.set_cons_succ, List.getElem_toArray, List.getElem_cons_zero, List.getElem_cons_succ]
        refine anyL_ready (rs := [24]) (by kernel_rfl) (by simp) ?_
        refine AllL.cons rfl (fun K hK => ?_) ?_
        rotate_left
        · exact AllL.nil
        refine step_append_lies _ (by rfl) _ _ 41 (by rfl) (W + 3) 65 i0 _ 2 16 Try.underlying41 hi hz0 hz1 hz2 (by rfl) (by omega) (.slice u.p u.n u.c) k (flP (psL pl vl n k)) (by rfl) (own_bl hOw KB) ⟨wr.heap.size, 0, none⟩ 1 1 [.bool b, .int .i64 (q % n)] (by rfl) (by rfl) (fun j v hv => (by rw [Addr.add_mid, Nat.zero_add, (((Bx.new wr 65 #[.bool b, .int .i64 (q % n)]).on (bl_drew _)).at j).1]; simpa using hv)) (fun v hv => (by simp at hv; rcases hv with rfl | rfl <;> rfl)) (by omega) (by unfold maxLen; omega) (by omega) (by have := KB.size; have := HLP.out.s; omega) (wr.heap.size + 1) (by simp [World.drew]) ?_
        intro g' cap' w4 hown hgrow hat hlt5
        have hub := fun j hj => own_base hOw (j := j) hj
        have hsz := HLP.out.s
        have hpr : ∀ j, j < W + 3 → w4.heap[j]? = wr.heap[j]? := fun j hj => (hgrow.block j (by have := KB.size; omega) (fun e => by have := hub j e.symm; omega)).trans (KB.block j (by omega))
        have M4 : Bx w4 W 51 #[.int .u8 mk, .int .u16 mb, .int .u16 mx, .int .i32 mlo, .int .i32 mhi, .slice (some ⟨g, o, none⟩) pl.length pc, .slice (some ⟨g2, o2, none⟩) vl.length vc] := (hpr W (by omega)).trans HLP.out.m
        have R4 : Bx w4 (W + 1) 43 #[.int .u8 0, .string ⟨#[]⟩, .string ⟨#[]⟩, .int .i64 0, .int .i64 0, .int .i64 0, .int .i64 0, .slice none 0 0, .slice none 0 0, .slice none 0 0, .slice none 0 0, .int .i64 0] := (hpr (W + 1) (by omega)).trans HLP.out.r
        have X4 : Bx w4 (W + 2) 43 #[.int .u8 (mk % 12 + 7), .string ⟨#[]⟩, .string ⟨#[]⟩, .int .i64 (mb % n), .int .i64 (mx % n), .int .i64 mlo, .int .i64 mhi, .slice none 0 0, .slice none 0 0, .slice none 0 0, .slice u.p u.n u.c, .int .i64 (mx % n)] := (hpr (W + 2) (by omega)).trans HLP.out.x
        have K4 : Bl w w4 := (HLP.out.b.on KB).grown hgrow (by have := KB.size; have := HLP.out.b.size; omega) (fun j hj => by have := hub j hj; omega)
        have H9 : w4.cell? ⟨W, 5, none⟩ = some (.slice (some ⟨g, o, none⟩) pl.length pc) ∧ w4.cell? ⟨W, 6, none⟩ = some (.slice (some ⟨g2, o2, none⟩) vl.length vc) ∧ w4.cell? ⟨W + 2, 10, none⟩ = some (.slice u.p u.n u.c) ∧ w4.cell? ⟨g, o + k, none⟩ = some (.int .u16 q) ∧ w4.cell? ⟨g2, o2 + k, none⟩ = some (.bool b) := ⟨by have := (M4.at 5).1; simpa using this, by have := (M4.at 6).1; simpa using this, by have := (X4.at 10).1; simpa using this, hqc w4 K4, hbc w4 K4⟩
        have f9 := (X4.at 10).2
        have HE := Lib.hid (And.intro hown (And.intro M4 (And.intro R4 (And.intro X4 (And.intro K4 (And.intro hlt5 hsz))))))
        clear hown hgrow hat hlt5 hub hpr M4 R4 X4 K4 KB HSS hOw hqc hbc
        refine hK.out _ _ (H9) (fun hHeld => ?_)
        clear hK K
        try simp only [Act.put, List.setIfInBounds_toArray, List.set_cons_zero, List.set_cons_succ, List.getElem_toArray, List.getElem_cons_zero, List.getElem_cons_succ]
        refine anyL_take (k := 28) (i := 25) (v := ?_) rfl (by kernel_rfl) (by kernel_rfl) (by kernel_rfl) (by kernel_rfl) (fun _ _ _ h => h) (Or.inl ⟨by rfl, ?_⟩) (by assumption) ?_
        rotate_left
        · intro w hSw; (try dsimp only at hSw); go_simp; try with_reducible rfl
        simp only [Act.put, List.setIfInBounds_toArray, List.set_cons_zero, List.set_cons_succ, List.getElem_toArray, List.getElem_cons_zero, List.getElem_cons_succ]
        refine anyL_ready (rs := [26]) (by kernel_rfl) (by simp) ?_
        refine AllL.last rfl (by kernel_rfl) (fun K hK => ?_) ?_
        rotate_left
        · exact AllL.nil
        go_simp
        refine hK.out _ _ ?_
        clear hK K
        try simp only [Act.put, List.setIfInBounds_toArray, List.set_cons_zero, List.set_cons_succ, List.getElem_toArray, List.getElem_cons_zero, List.getElem_cons_succ]
        refine anyL_done (by kernel_rfl) ?_ _
        have HNEW := Lib.hid (lp_next (HE.out.2.2.2.2.1) HE.out.2.1 HE.out.2.2.1 HE.out.2.2.2.1 HE.out.1 HPN.out (psL_len pl vl n k) HE.out.2.2.2.2.2.1 (Nat.le_of_eq hW) (fun v => rfl) (x := (b, q % n)) (yz := fun u => #[.int .u8 (mk % 12 + 7), .string ⟨#[]⟩, .string ⟨#[]⟩, .int .i64 (mb % n), .int .i64 (mx % n), .int .i64 mlo, .int .i64 mhi, .slice none 0 0, .slice none 0 0, .slice none 0 0, .slice u.p u.n u.c, .int .i64 (mx % n)]) (u := u))
        clear HE HPN H9 f9 hHeld HLP
        go_wp2_with fail
        go_roundw
        case rel => exact ⟨k + 1, _, by omega, by simp, HNEW.out⟩
        case measure => simp [intOf]; omega

      · have d3 : decide ((k : Int) < (vl.length : Int)) = false := decide_eq_false (by omega)
        obtain ⟨b, hbf⟩ : ∃ b, b = false := ⟨_, rfl⟩
        have hgb : vl.getD k false = b := by rw [hbf]; simp [List.getD, List.getElem?_eq_none (show vl.length ≤ k by omega)]
        have HSS : ∀ w', Bl wr w' → (w'.cell? ⟨W, 5, none⟩ = some (.slice (some ⟨g, o, none⟩) pl.length pc) ∧ w'.cell? ⟨W, 6, none⟩ = some (.slice vp vl.length vc) ∧ w'.cell? ⟨W + 2, 10, none⟩ = some (.slice u.p u.n u.c) ∧ w'.cell? ⟨g, o + k, none⟩ = some (.int .u16 q)) := fun w' z => ⟨by have := ((HLP.out.m.on z).at 5).1; simpa using this, by have := ((HLP.out.m.on z).at 6).1; simpa using this, by have := ((HLP.out.x.on z).at 10).1; simpa using this, hqc w' (HLP.out.b.on z)⟩
        have HPN := Lib.hid (show psL pl vl n (k + 1) = psL pl vl n k ++ [(false, q % n)] by rw [psL_next]; unfold parP; rw [hgd, hgb]; rw [hbf])
        have hOw : wr.ownsRow (W + 3) 65 2 (.slice u.p u.n u.c) k (flP (psL pl vl n k)) := by have := HLP.out.o; rw [psL_len] at this; exact this
        clear x5 x6 y10 hgd hgb hHeld
        refine region_l 26 (S := fun w' => w'.cell? ⟨W, 5, none⟩ = some (.slice (some ⟨g, o, none⟩) pl.length pc) ∧ w'.cell? ⟨W, 6, none⟩ = some (.slice vp vl.length vc) ∧ w'.cell? ⟨W + 2, 10, none⟩ = some (.slice u.p u.n u.c) ∧ w'.cell? ⟨g, o + k, none⟩ = some (.int .u16 q)) (by kernel_rfl) ?_ (fun hHeld => ?_)
        · exact HSS _ (bl_drew wr)
        refine anyL_take (k := 28) (i := 0) (v := ?_) rfl (by kernel_rfl) (by kernel_rfl) (by kernel_rfl) (by kernel_rfl) (fun _ _ _ h => h) (Or.inl ⟨by rfl, ?_⟩) (by assumption) ?_
        rotate_left
        · intro w hSw; (try dsimp only at hSw); go_simp; try with_reducible rfl
        simp only [Act.put, List.setIfInBounds_toArray, List.set_cons_zero, List.set_cons_succ, List.getElem_toArray, List.getElem_cons_zero, List.getElem_cons_succ]
        refine anyL_take (k := 28) (i := 1) (v := ?_) rfl (by kernel_rfl) (by kernel_rfl) (by kernel_rfl) (by kernel_rfl) (fun _ _ _ h => h) (Or.inl ⟨by rfl, ?_⟩) (by assumption) ?_
        rotate_left
        · intro w hSw; (try dsimp only at hSw); go_simp; try with_reducible rfl
        simp only [Act.put, List.setIfInBounds_toArray, List.set_cons_zero, List.set_cons_succ, List.getElem_toArray, List.getElem_cons_zero, List.getElem_cons_succ]
        refine anyL_take (k := 28) (i := 2) (v := ?_) rfl (by kernel_rfl) (by kernel_rfl) (by kernel_rfl) (by kernel_rfl) (fun _ _ _ h => h) (Or.inl ⟨by rfl, ?_⟩) (by assumption) ?_
        rotate_left
        · intro w hSw; (try dsimp only at hSw); go_simp; try with_reducible rfl
        simp only [Act.put, List.setIfInBounds_toArray, List.set_cons_zero, List.set_cons_succ, List.getElem_toArray, List.getElem_cons_zero, List.getElem_cons_succ]
        refine anyL_take (k := 28) (i := 3) (v := ?_) rfl (by kernel_rfl) (by kernel_rfl) (by kernel_rfl) (by kernel_rfl) (fun _ _ _ h => h) (Or.inl ⟨by rfl, ?_⟩) (by assumption) ?_
        rotate_left
        · intro w hSw; (try dsimp only at hSw); go_simp; try with_reducible rfl
        simp only [Act.put, List.setIfInBounds_toArray, List.set_cons_zero, List.set_cons_succ, List.getElem_toArray, List.getElem_cons_zero, List.getElem_cons_succ]
        refine anyL_take (k := 28) (i := 4) (v := ?_) rfl (by kernel_rfl) (by kernel_rfl) (by kernel_rfl) (by kernel_rfl) (fun _ _ _ h => h) (Or.inl ⟨by rfl, ?_⟩) (by assumption) ?_
        rotate_left
        · intro w hSw; (try dsimp only at hSw); go_simp; try with_reducible rfl
        simp only [Act.put, List.setIfInBounds_toArray, List.set_cons_zero, List.set_cons_succ, List.getElem_toArray, List.getElem_cons_zero, List.getElem_cons_succ]
        refine anyL_take (k := 28) (i := 5) (v := ?_) rfl (by kernel_rfl) (by kernel_rfl) (by kernel_rfl) (by kernel_rfl) (fun _ _ _ h => h) (Or.inl ⟨by rfl, ?_⟩) (by assumption) ?_
        rotate_left
        · intro w hSw; (try dsimp only at hSw); go_simp; try with_reducible rfl
        simp only [Act.put, List.setIfInBounds_toArray, List.set_cons_zero, List.set_cons_succ, List.getElem_toArray, List.getElem_cons_zero, List.getElem_cons_succ]
        refine anyL_take (k := 28) (i := 6) (v := ?_) rfl (by kernel_rfl) (by kernel_rfl) (by kernel_rfl) (by kernel_rfl) (fun _ _ _ h => h) (Or.inl ⟨by rfl, ?_⟩) (by assumption) ?_
        rotate_left
        · intro w hSw; (try dsimp only at hSw); go_simp; try with_reducible rfl
        simp only [Act.put, List.setIfInBounds_toArray, List.set_cons_zero, List.set_cons_succ, List.getElem_toArray, List.getElem_cons_zero, List.getElem_cons_succ]
        refine anyL_take (k := 28) (i := 7) (v := ?_) rfl (by kernel_rfl) (by kernel_rfl) (by kernel_rfl) (by kernel_rfl) (fun _ _ _ h => h) (Or.inl ⟨by rfl, ?_⟩) (by assumption) ?_
        rotate_left
        · intro w hSw; (try dsimp only at hSw); go_simp; try with_reducible rfl
        simp only [Act.put, List.setIfInBounds_toArray, List.set_cons_zero, List.set_cons_succ, List.getElem_toArray, List.getElem_cons_zero, List.getElem_cons_succ]
        refine anyL_take (k := 28) (i := 8) (v := undef) rfl (by kernel_rfl) (by kernel_rfl) (by kernel_rfl) (by kernel_rfl) (fun _ _ _ h => h) (Or.inr ⟨by rfl, rfl⟩) (by assumption) ?_
        simp only [Act.put, List.setIfInBounds_toArray, List.set_cons_zero, List.set_cons_succ, List.getElem_toArray, List.getElem_cons_zero, List.getElem_cons_succ]
        refine anyL_take (k := 28) (i := 9) (v := undef) rfl (by kernel_rfl) (by kernel_rfl) (by kernel_rfl) (by kernel_rfl) (fun _ _ _ h => h) (Or.inr ⟨by rfl, rfl⟩) (by assumption) ?_
        simp only [Act.put, List.setIfInBounds_toArray, List.set_cons_zero, List.set_cons_succ, List.getElem_toArray, List.getElem_cons_zero, List.getElem_cons_succ]
        refine anyL_take (k := 28) (i := 10) (v := undef) rfl (by kernel_rfl) (by kernel_rfl) (by kernel_rfl) (by kernel_rfl) (fun _ _ _ h => h) (Or.inr ⟨by rfl, rfl⟩) (by assumption) ?_
        simp only [Act.put, List.setIfInBounds_toArray, List.set_cons_zero, List.set_cons_succ, List.getElem_toArray, List.getElem_cons_zero, List.getElem_cons_succ]
        refine anyL_take (k := 28) (i := 11) (v := undef) rfl (by kernel_rfl) (by kernel_rfl) (by kernel_rfl) (by kernel_rfl) (fun _ _ _ h => h) (Or.inr ⟨by rfl, rfl⟩) (by assumption) ?_
        simp only [Act.put, List.setIfInBounds_toArray, List.set_cons_zero, List.set_cons_succ, List.getElem_toArray, List.getElem_cons_zero, List.getElem_cons_succ]
        refine anyL_take (k := 28) (i := 12) (v := undef) rfl (by kernel_rfl) (by kernel_rfl) (by kernel_rfl) (by kernel_rfl) (fun _ _ _ h => h) (Or.inr ⟨by rfl, rfl⟩) (by assumption) ?_
        simp only [Act.put, List.setIfInBounds_toArray, List.set_cons_zero, List.set_cons_succ, List.getElem_toArray, List.getElem_cons_zero, List.getElem_cons_succ]
        refine anyL_take (k := 28) (i := 13) (v := ?_) rfl (by kernel_rfl) (by kernel_rfl) (by kernel_rfl) (by kernel_rfl) (fun _ _ _ h => h) (Or.inl ⟨by rfl, ?_⟩) (by assumption) ?_
        rotate_left
        · intro w hSw; (try dsimp only at hSw); go_simp; try with_reducible rfl
        simp only [Act.put, List.setIfInBounds_toArray, List.set_cons_zero, List.set_cons_succ, List.getElem_toArray, List.getElem_cons_zero, List.getElem_cons_succ]
        refine anyL_take (k := 28) (i := 14) (v := ?_) rfl (by kernel_rfl) (by kernel_rfl) (by kernel_rfl) (by kernel_rfl) (fun _ _ _ h => h) (Or.inl ⟨by rfl, ?_⟩) (by assumption) ?_
        rotate_left
        · intro w hSw; (try dsimp only at hSw); go_simp; try with_reducible rfl
        simp only [Act.put, List.setIfInBounds_toArray, List.set_cons_zero, List.set_cons_succ, List.getElem_toArray, List.getElem_cons_zero, List.getElem_cons_succ]
        refine anyL_take (k := 28) (i := 15) (v := ?_) rfl (by kernel_rfl) (by kernel_rfl) (by kernel_rfl) (by kernel_rfl) (fun _ _ _ h => h) (Or.inl ⟨by rfl, ?_⟩) (by assumption) ?_
        rotate_left
        · intro w hSw; (try dsimp only at hSw); go_simp; try with_reducible rfl
        simp only [Act.put, List.setIfInBounds_toArray, List.set_cons_zero, List.set_cons_succ, List.getElem_toArray, List.getElem_cons_zero, List.getElem_cons_succ]
        refine anyL_take (k := 28) (i := 16) (v := ?_) rfl (by kernel_rfl) (by kernel_rfl) (by kernel_rfl) (by kernel_rfl) (fun _ _ _ h => h) (Or.inl ⟨by rfl, ?_⟩) (by assumption) ?_
        rotate_left
        · intro w hSw; (try dsimp only at hSw); go_simp; try with_reducible rfl
        simp only [Act.put, List.setIfInBounds_toArray, List.set_cons_zero, List.set_cons_succ, List.getElem_toArray, List.getElem_cons_zero, List.getElem_cons_succ]
        refine anyL_take (k := 28) (i := 17) (v := ?_) rfl (by kernel_rfl) (by kernel_rfl) (by kernel_rfl) (by kernel_rfl) (fun _ _ _ h => h) (Or.inl ⟨by rfl, ?_⟩) (by assumption) ?_
        rotate_left
        · intro w hSw; (try dsimp only at hSw); go_simp; try with_reducible rfl
        simp only [Act.put, List.setIfInBounds_toArray, List.set_cons_zero, List.set_cons_succ, List.getElem_toArray, List.getElem_cons_zero, List.getElem_cons_succ]
        refine anyL_take (k := 28) (i := 18) (v := ?_) rfl (by kernel_rfl) (by kernel_rfl) (by kernel_rfl) (by kernel_rfl) (fun _ _ _ h => h) (Or.inl ⟨by rfl, ?_⟩) (by assumption) ?_
        rotate_left
        · intro w hSw; (try dsimp only at hSw); go_simp; try with_reducible rfl
        simp only [Act.put, List.setIfInBounds_toArray, List.set_cons_zero, List.set_cons_succ, List.getElem_toArray, List.getElem_cons_zero, List.getElem_cons_succ]
        refine anyL_take (k := 28) (i := 19) (v := ?_) rfl (by kernel_rfl) (by kernel_rfl) (by kernel_rfl) (by kernel_rfl) (fun _ _ _ h => h) (Or.inl ⟨by rfl, ?_⟩) (by assumption) ?_
        rotate_left
        · intro w hSw; (try dsimp only at hSw); go_simp; try with_reducible rfl
        simp only [Act.put, List.setIfInBounds_toArray, List.set_cons_zero, List.set_cons_succ, List.getElem_toArray, List.getElem_cons_zero, List.getElem_cons_succ]
        refine anyL_take (k := 28) (i := 20) (v := ?_) rfl (by kernel_rfl) (by kernel_rfl) (by kernel_rfl) (by kernel_rfl) (fun _ _ _ h => h) (Or.inl ⟨by rfl, ?_⟩) (by assumption) ?_
        rotate_left
        · intro w hSw; (try dsimp only at hSw); go_simp; try with_reducible rfl
        simp only [Act.put, List.setIfInBounds_toArray, List.set_cons_zero, List.set_cons_succ, List.getElem_toArray, List.getElem_cons_zero, List.getElem_cons_succ]
        refine anyL_take (k := 28) (i := 21) (v := ?_) rfl (by kernel_rfl) (by kernel_rfl) (by kernel_rfl) (by kernel_rfl) (fun _ _ _ h => h) (Or.inl ⟨by rfl, ?_⟩) (by assumption) ?_
        rotate_left
        · intro w hSw; (try dsimp only at hSw); go_simp; try with_reducible rfl
        simp only [Act.put, List.setIfInBounds_toArray, List.set_cons_zero, List.set_cons_succ, List.getElem_toArray, List.getElem_cons_zero, List.getElem_cons_succ]
        refine anyL_take (k := 28) (i := 22) (v := ?_) rfl (by kernel_rfl) (by kernel_rfl) (by kernel_rfl) (by kernel_rfl) (fun _ _ _ h => h) (Or.inl ⟨by rfl, ?_⟩) (by assumption) ?_
        rotate_left
        · intro w hSw; (try dsimp only at hSw); go_simp; try with_reducible rfl
        simp only [Act.put, List.setIfInBounds_toArray, List.set_cons_zero, List.set_cons_succ, List.getElem_toArray, List.getElem_cons_zero, List.getElem_cons_succ]
        refine anyL_ready (rs := [23]) (by kernel_rfl) (by simp) ?_
        refine AllL.cons rfl (fun K hK => ?_) ?_
        rotate_left
        · exact AllL.nil
        go_simp
        have KB : Bl wr ((wr.alloc (.cells #[.bool false, .int .i64 (q % n)] 65)).drew) := (bl_new _ _).on (bl_drew _)
        refine hK.out _ _ (HSS _ KB) (fun hHeld => ?_)
        clear hK K
        try simp only [Act.put, List.setIfInBounds_toArray, List.set_cons_zero, List.set_cons_succ, List.getElem_toArray, List.getElem_cons_zero, List.getElem_cons_succ]
        refine anyL_ready (rs := [24]) (by kernel_rfl) (by simp) ?_
        refine AllL.cons rfl (fun K hK => ?_) ?_
        rotate_left
        · exact AllL.nil
        refine step_append_lies _ (by rfl) _ _ 41 (by rfl) (W + 3) 65 i0 _ 2 16 Try.underlying41 hi hz0 hz1 hz2 (by rfl) (by omega) (.slice u.p u.n u.c) k (flP (psL pl vl n k)) (by rfl) (own_bl hOw KB) ⟨wr.heap.size, 0, none⟩ 1 1 [.bool false, .int .i64 (q % n)] (by rfl) (by rfl) (fun j v hv => (by rw [Addr.add_mid, Nat.zero_add, (((Bx.new wr 65 #[.bool false, .int .i64 (q % n)]).on (bl_drew _)).at j).1]; simpa using hv)) (fun v hv => (by simp at hv; rcases hv with rfl | rfl <;> rfl)) (by omega) (by unfold maxLen; omega) (by omega) (by have := KB.size; have := HLP.out.s; omega) (wr.heap.size + 1) (by simp [World.drew]) ?_
        intro g' cap' w4 hown hgrow hat hlt5
        have hub := fun j hj => own_base hOw (j := j) hj
        have hsz := HLP.out.s
        have hpr : ∀ j, j < W + 3 → w4.heap[j]? = wr.heap[j]? := fun j hj => (hgrow.block j (by have := KB.size; omega) (fun e => by have := hub j e.symm; omega)).trans (KB.block j (by omega))
        have M4 : Bx w4 W 51 #[.int .u8 mk, .int .u16 mb, .int .u16 mx, .int .i32 mlo, .int .i32 mhi, .slice (some ⟨g, o, none⟩) pl.length pc, .slice vp vl.length vc] := (hpr W (by omega)).trans HLP.out.m
        have R4 : Bx w4 (W + 1) 43 #[.int .u8 0, .string ⟨#[]⟩, .string ⟨#[]⟩, .int .i64 0, .int .i64 0, .int .i64 0, .int .i64 0, .slice none 0 0, .slice none 0 0, .slice none 0 0, .slice none 0 0, .int .i64 0] := (hpr (W + 1) (by omega)).trans HLP.out.r
        have X4 : Bx w4 (W + 2) 43 #[.int .u8 (mk % 12 + 7), .string ⟨#[]⟩, .string ⟨#[]⟩, .int .i64 (mb % n), .int .i64 (mx % n), .int .i64 mlo, .int .i64 mhi, .slice none 0 0, .slice none 0 0, .slice none 0 0, .slice u.p u.n u.c, .int .i64 (mx % n)] := (hpr (W + 2) (by omega)).trans HLP.out.x
        have K4 : Bl w w4 := (HLP.out.b.on KB).grown hgrow (by have := KB.size; have := HLP.out.b.size; omega) (fun j hj => by have := hub j hj; omega)
        have H9 : w4.cell? ⟨W, 5, none⟩ = some (.slice (some ⟨g, o, none⟩) pl.length pc) ∧ w4.cell? ⟨W, 6, none⟩ = some (.slice vp vl.length vc) ∧ w4.cell? ⟨W + 2, 10, none⟩ = some (.slice u.p u.n u.c) ∧ w4.cell? ⟨g, o + k, none⟩ = some (.int .u16 q) := ⟨by have := (M4.at 5).1; simpa using this, by have := (M4.at 6).1; simpa using this, by have := (X4.at 10).1; simpa using this, hqc w4 K4⟩
        have f9 := (X4.at 10).2
        have HE := Lib.hid (And.intro hown (And.intro M4 (And.intro R4 (And.intro X4 (And.intro K4 (And.intro hlt5 hsz))))))
        clear hown hgrow hat hlt5 hub hpr M4 R4 X4 K4 KB HSS hOw hqc
        refine hK.out _ _ (H9) (fun hHeld => ?_)
        clear hK K
        try simp only [Act.put, List.setIfInBounds_toArray, List.set_cons_zero, List.set_cons_succ, List.getElem_toArray, List.getElem_cons_zero, List.getElem_cons_succ]
        refine anyL_take (k := 28) (i := 25) (v := ?_) rfl (by kernel_rfl) (by kernel_rfl) (by kernel_rfl) (by kernel_rfl) (fun _ _ _ h => h) (Or.inl ⟨by rfl, ?_⟩) (by assumption) ?_
        rotate_left
        · intro w hSw; (try dsimp only at hSw); go_simp; try with_reducible rfl
        simp only [Act.put, List.setIfInBounds_toArray, List.set_cons_zero, List.set_cons_succ, List.getElem_toArray, List.getElem_cons_zero, List.getElem_cons_succ]
        refine anyL_ready (rs := [26]) (by kernel_rfl) (by simp) ?_
        refine AllL.last rfl (by kernel_rfl) (fun K hK => ?_) ?_
        rotate_left
        · exact AllL.nil
        go_simp
        refine hK.out _ _ ?_
        clear hK K
        try simp only [Act.put, List.setIfInBounds_toArray, List.set_cons_zero, List.set_cons_succ, List.getElem_toArray, List.getElem_cons_zero, List.getElem_cons_succ]
        refine anyL_done (by kernel_rfl) ?_ _
        have HNEW := Lib.hid (lp_next (HE.out.2.2.2.2.1) HE.out.2.1 HE.out.2.2.1 HE.out.2.2.2.1 HE.out.1 HPN.out (psL_len pl vl n k) HE.out.2.2.2.2.2.1 (Nat.le_of_eq hW) (fun v => rfl) (x := (false, q % n)) (yz := fun u => #[.int .u8 (mk % 12 + 7), .string ⟨#[]⟩, .string ⟨#[]⟩, .int .i64 (mb % n), .int .i64 (mx % n), .int .i64 mlo, .int .i64 mhi, .slice none 0 0, .slice none 0 0, .slice none 0 0, .slice u.p u.n u.c, .int .i64 (mx % n)]) (u := u))
        clear HE HPN H9 f9 hHeld HLP
        go_wp2_with fail
        go_roundw
        case rel => exact ⟨k + 1, _, by omega, by simp, HNEW.out⟩
        case measure => simp [intOf]; omega

    · obtain rfl : k = m6 := by omega
      have X := HLP.out.x
      have R := HLP.out.r
      rw [hyz u] at X
      obtain ⟨y, hy⟩ : ∃ y : TyV, y = ⟨mk % 12 + 7, ⟨#[]⟩, ⟨#[]⟩, mb % n, mx % n, mlo, mhi, .no, .no, .no, u, mx % n⟩ := ⟨_, rfl⟩
      rw [← hy] at X
      by_cases e1 : k < pl.length <;> by_cases e2 : k < 6
      · exfalso
        have hm := HM6.out
        rcases Nat.le_total pl.length 6 with h7 | h7
        · rw [Nat.min_eq_left h7] at hm; omega
        · rw [Nat.min_eq_right h7] at hm; omega
      all_goals
        go_wp2_with (first | (refine wpList_load_row rfl 43 _ rfl (W + 2) rfl 43 y.arr (0, 0) _ X Try.underlying43 rfl infoTy ?_) | (refine wpList_store_row rfl 43 _ _ rfl (W + 1) y.arr rfl rfl 43 _ R infoTy rfl y.one ?_))
        refine bodyPost_ret (v := y.val) ?_ rfl ?_
        · exact results_cell_row Try.results21 _ _ _ 43 y.arr (0, 0) _ rfl (R.set _) Try.underlying43 rfl infoTy
        · subst hy
          exact ⟨_, rfl, bl_row HLP.out.b (by omega) _, ⟨rfl, rfl, rfl, rfl, rfl, rfl, rfl, rfl⟩, row_nil _ _ _ _, row_nil _ _ _ _, row_nilA _ _, ((row_of_own HLP.out.o).farR (by omega) _).low (by omega)⟩
end Go.Proofs.Ytepfknfadpkigaa
