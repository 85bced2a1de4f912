/- Law 11: TypesCopies. -/
import Derived.Test.YtepfknfadpkigaaTyM
import Derived.Deep.WholeRow
namespace Go.Proofs.Ytepfknfadpkigaa
open Go.RowKit
set_option maxHeartbeats 4000000
set_option maxRecDepth 100000
set_option linter.unusedVariables false
set_option linter.unusedSimpArgs false

theorem sizeM : (Try.prog.info? 51).map (·.size) = some 7 := by kernel_rfl
theorem set_new {w : World} {B : Nat} (hB : w.heap.size = B) (c c' : Array Value) (t : TypeId) : (w.alloc (.cells c t)).setRow B c' = w.alloc (.cells c' t) := by subst hB; exact World.setRow_alloc_new _ _ _ _
theorem new_at {w : World} {B : Nat} (hB : w.heap.size = B) (o : Obj) : (w.alloc o).heap[B]? = some o := by subst hB; exact heap_alloc_new _ _
theorem at_on {w w' : World} {j : Nat} {o : Obj} (h : w.heap[j]? = some o) (k : Bl w w') : w'.heap[j]? = some o := (k.block j (Array.getElem?_eq_some_iff.1 h).1).trans h
theorem chain6 (w : World) (o0 o1 o2 o3 o4 o5 : Obj) (B N1 N2 N3 N4 N5 : Nat) (hB : w.heap.size = B) (h1 : B + 1 = N1) (h2 : N1 + 1 = N2) (h3 : N2 + 1 = N3) (h4 : N3 + 1 = N4) (h5 : N4 + 1 = N5) (w5 : World) (h : (((((w.alloc o0).alloc o1).alloc o2).alloc o3).alloc o4).alloc o5 = w5) :
    w5.heap[B]? = some o0 ∧ w5.heap[N1]? = some o1 ∧ w5.heap[N2]? = some o2 ∧ w5.heap[N3]? = some o3 ∧ w5.heap[N4]? = some o4 ∧ w5.heap[N5]? = some o5 ∧ w5.heap.size = N5 + 1 ∧ Bl w w5 := by
  have b5 := bl_new ((((w.alloc o0).alloc o1).alloc o2).alloc o3 |>.alloc o4) o5
  have b4 := (bl_new (((w.alloc o0).alloc o1).alloc o2 |>.alloc o3) o4).on b5
  have b3 := (bl_new ((w.alloc o0).alloc o1 |>.alloc o2) o3).on b4
  have b2 := (bl_new ((w.alloc o0).alloc o1) o2).on b3
  have b1 := (bl_new (w.alloc o0) o1).on b2
  have b0 := (bl_new w o0).on b1
  have e0 := at_on (heap_alloc_new w o0) b1
  have e1 := at_on (heap_alloc_new (w.alloc o0) o1) b2
  have e2 := at_on (heap_alloc_new ((w.alloc o0).alloc o1) o2) b3
  have e3 := at_on (heap_alloc_new ((w.alloc o0).alloc o1 |>.alloc o2) o3) b4
  have e4 := at_on (heap_alloc_new (((w.alloc o0).alloc o1).alloc o2 |>.alloc o3) o4) b5
  have e5 := heap_alloc_new ((((w.alloc o0).alloc o1).alloc o2).alloc o3 |>.alloc o4) o5
  simp only [World.size_alloc, hB, h1, h2, h3, h4, h5, h] at e0 e1 e2 e3 e4 e5 b0
  exact ⟨e0, e1, e2, e3, e4, e5, by rw [← h]; simp only [World.size_alloc, hB, h1, h2, h3, h4, h5], b0⟩
theorem row_bx1 {α : Type} {w : World} {b c st : Nat} {t : TypeId} {cs : Array Value} {enc : α → List Value} {x : α} (h : Bx w b t cs) (he : enc x = cs.toList) : Row w 0 ⟨some ⟨b, 0, none⟩, 1, c⟩ enc st [x] := by
  refine ⟨rfl, fun _ => ⟨b, 0, rfl, Nat.zero_le _, (Array.getElem?_eq_some_iff.1 h).1, fun i y hy j v hv => ?_, fun hB => absurd hB (Nat.lt_irrefl _)⟩⟩
  match i, hy with
  | 0, hy =>
    simp only [List.getElem?_cons_zero, Option.some.injEq] at hy
    subst hy
    simp only [Nat.zero_mul, Nat.zero_add]
    rw [(h.at j).1]
    rw [he] at hv
    simpa using hv
  | i + 1, hy => simp at hy
theorem row_bx2 {α : Type} {w : World} {b c : Nat} {t : TypeId} {u v : Value} {enc : α → List Value} {x y : α} (h : Bx w b t #[u, v]) (hx : enc x = [u]) (hy : enc y = [v]) : Row w 0 ⟨some ⟨b, 0, none⟩, 2, c⟩ enc 1 [x, y] := by
  refine ⟨rfl, fun _ => ⟨b, 0, rfl, Nat.zero_le _, (Array.getElem?_eq_some_iff.1 h).1, fun i z hz j q hq => ?_, fun hB => absurd hB (Nat.lt_irrefl _)⟩⟩
  match i, hz with
  | 0, hz =>
    simp only [List.getElem?_cons_zero, Option.some.injEq] at hz
    subst hz
    rw [hx] at hq
    match j, hq with
    | 0, hq => simp only [List.getElem?_cons_zero, Option.some.injEq] at hq; subst hq; exact (h.at 0).1
    | j + 1, hq => simp at hq
  | 1, hz =>
    simp only [List.getElem?_cons_zero, List.getElem?_cons_succ, Option.some.injEq] at hz
    subst hz
    rw [hy] at hq
    match j, hq with
    | 0, hq => simp only [List.getElem?_cons_zero, Option.some.injEq] at hq; subst hq; exact (h.at 1).1
    | j + 1, hq => simp at hq
  | i + 2, hz => simp at hz
theorem unpack1 {α : Type} {w : World} {B st : Nat} {v : Sl} {enc : α → List Value} {x : α} (h : Row w B v enc st [x]) (hB : 0 < B) (hs : 0 < st) : ∃ g o c, v = ⟨some ⟨g, o, none⟩, 1, c⟩ ∧ B ≤ g ∧ g < w.heap.size ∧ w.rangeAt g o (enc x) ∧ w.frozen? ⟨g, o, none⟩ = false := by
  obtain ⟨p, n, c⟩ := v
  have hn := h.n
  obtain ⟨g, o, h1, h2, h3, h4, h5⟩ := h.c (by simp)
  simp only [List.length_cons, List.length_nil] at hn h1
  subst hn h1
  exact ⟨g, o, c, rfl, h2, h3, by have := h4 0 x rfl; simpa using this, by have := h5 hB 0 (by simpa using hs); simpa using this⟩
theorem unpack2 {α : Type} {w : World} {B : Nat} {v : Sl} {enc : α → List Value} {x y : α} (h : Row w B v enc 1 [x, y]) (hB : 0 < B) : ∃ g o c, v = ⟨some ⟨g, o, none⟩, 2, c⟩ ∧ B ≤ g ∧ g < w.heap.size ∧ w.rangeAt g o (enc x) ∧ w.frozen? ⟨g, o, none⟩ = false := by
  obtain ⟨p, n, c⟩ := v
  have hn := h.n
  obtain ⟨g, o, h1, h2, h3, h4, h5⟩ := h.c (by simp)
  simp only [List.length_cons, List.length_nil] at hn h1
  subst hn h1
  exact ⟨g, o, c, rfl, h2, h3, by have := h4 0 x rfl; simpa using this, by have := h5 hB 0 (by simp); simpa using this⟩
def copK (k b x lo hi : Int) (ps : List (Bool × Int)) (name : ByteArray) : TyK := ⟨k, ⟨#[]⟩, ⟨#[]⟩, b, x, lo, hi, [name, ⟨#[98]⟩], [(name, 1, 0)], [([1], [2], false)], ps, x⟩
def fwT (name : ByteArray) : TyV := ⟨17, ⟨#[]⟩, name, 0, 0, 0, 0, .no, .no, .no, .no, 0⟩
def fwK (name : ByteArray) : TyK := ⟨17, ⟨#[]⟩, name, 0, 0, 0, 0, [], [], [], [], 0⟩
def pvT (b : Int) : TyV := ⟨14, ⟨#[]⟩, ⟨#[]⟩, b, 0, 0, 0, .no, .no, .no, .no, 0⟩
def pvK (b : Int) : TyK := ⟨14, ⟨#[]⟩, ⟨#[]⟩, b, 0, 0, 0, [], [], [], [], 0⟩
theorem fw_ok (name : ByteArray) : (fwK name).ok := ⟨by simp [fwK], by simp [fwK], by simp [fwK], by simp [fwK], by simp [fwK], by simp [fwK]⟩
theorem pv_ok (b : Int) : (pvK b).ok := ⟨by simp [pvK], by simp [pvK], by simp [pvK], by simp [pvK], by simp [pvK], by simp [pvK]⟩
theorem fw_has (name : ByteArray) (w : World) (B : Nat) : Has w B (fwT name) (fwK name) := has_flat _ _ _ _ ⟨rfl, rfl, rfl, rfl⟩ ⟨rfl, rfl, rfl, rfl⟩ ⟨rfl, rfl, rfl, rfl, rfl, rfl, rfl, rfl⟩
theorem pv_has (b : Int) (w : World) (B : Nat) : Has w B (pvT b) (pvK b) := has_flat _ _ _ _ ⟨rfl, rfl, rfl, rfl⟩ ⟨rfl, rfl, rfl, rfl⟩ ⟨rfl, rfl, rfl, rfl, rfl, rfl, rfl, rfl⟩
abbrev arrV (x : TyV) : Array Value := #[.int .u8 x.k, .string x.m, .string x.n, .int .i64 x.b, .int .i64 x.x, .int .i64 x.lo, .int .i64 x.hi, .slice x.ns.p x.ns.n x.ns.c, .slice x.fs.p x.fs.n x.fs.c, .slice x.rs.p x.rs.n x.rs.c, .slice x.ps.p x.ps.n x.ps.c, .int .i64 x.r]
theorem Fx.cell {M : List Nat} {w w' : World} (h : Fx M w w') {b : Nat} (hb : b ∈ M) (j : Nat) (v : Value) : Fx M w (w'.setCell ⟨b, j, none⟩ v) :=
  ⟨h.os, h.tape, h.output, by simpa using h.size, fun k hk hm => by rw [← h.block k hk hm]; simp [World.setCell, Array.getElem?_modify, show ¬ b = k from fun e => hm (e ▸ hb)]⟩
/-- What Get answered. -/
theorem tc_unpack {w : World} {B : Nat} {y : TyV} {k b x lo hi : Int} {ps : List (Bool × Int)} {name : ByteArray} (h : Has w B y (copK k b x lo hi ps name)) (hB : 0 < B) :
    ∃ gn on cn gf of cf gr oo cr ga oa ca, y.ns = ⟨some ⟨gn, on, none⟩, 2, cn⟩ ∧ y.fs = ⟨some ⟨gf, of, none⟩, 1, cf⟩ ∧ y.rs = ⟨some ⟨gr, oo, none⟩, 1, cr⟩ ∧
      w.cell? ⟨gn, on, none⟩ = some (.string name) ∧ w.frozen? ⟨gn, on, none⟩ = false ∧ w.cell? ⟨gf, of, none⟩ = some (.string name) ∧ w.cell? ⟨gr, oo, none⟩ = some (.slice (some ⟨ga, oa, none⟩) 1 ca) ∧
      w.cell? ⟨ga, oa, none⟩ = some (.int .i64 1) ∧ w.frozen? ⟨ga, oa, none⟩ = false ∧ B ≤ gn ∧ B ≤ ga ∧ gn < w.heap.size ∧ gf < w.heap.size ∧ gr < w.heap.size ∧ ga < w.heap.size := by
  obtain ⟨gn, on, cn, e1, b1, l1, c1, f1⟩ := unpack2 h.ns hB
  obtain ⟨gf, of, cf, e2, b2, l2, c2, f2⟩ := unpack1 h.fs hB (by omega)
  obtain ⟨l, hl, hlen, hA⟩ := h.rs
  obtain ⟨a, rfl⟩ : ∃ a, l = [a] := by
    match l, hlen with
    | [a], _ => exact ⟨a, rfl⟩
  obtain ⟨gr, oo, cr, e3, b3, l3, c3, f3⟩ := unpack1 hl hB (by omega)
  have ha := hA 0 a _ rfl rfl
  obtain ⟨ga, oa, ca, e4, b4, l4, c4, f4⟩ := unpack1 ha.f hB (by omega)
  refine ⟨gn, on, cn, gf, of, cf, gr, oo, cr, ga, oa, ca, e1, e2, e3, c1 0 _ rfl, f1, c2 0 _ rfl, ?_, c4 0 _ rfl, f4, b1, b4, l1, l2, l3, l4⟩
  have := c3 0 _ rfl
  rw [e4] at this
  exact this
theorem tcopies_long (m : MaV) (name : ByteArray) (hl : 1024 < name.size) (W : World) : Calls Try.prog 4 #[m.val, .string name] W fun e w' => e = .returned (.bool true) ∧ Bl W w' := by
  have HW := works_any
  have d0 : decide ((name.size : Int) > 1024) = true := decide_eq_true (by omega)
  go_enter Try.func4, Try.ntmps4
  go_wp2_with fail
  refine (HW _).mono ?_
  rintro e w1 ⟨rfl, k1⟩
  go_wp2_with fail
  go_ret
  exact ⟨rfl, (bl_new _ _).on k1⟩
theorem tcopies_in (m : MaV) (pl : List Int) (vl : List Bool) (name : ByteArray) (hl : name.size ≤ 1024) (w : World) (ho : MaOk m pl) (hp : Row w 0 m.ps encU 1 pl) (hv : Row w 0 m.vs encB 1 vl) : Calls Try.prog 4 #[m.val, .string name] w fun e w' => e = .returned (.bool true) ∧ Bl w w' := by
  have d0 : decide ((name.size : Int) > 1024) = false := decide_eq_false (by omega)
  have HT := fun w1 (k : Bl w w1) => mtype_any m pl vl 10 w1 ho (hp.on k) (hv.on k) (by omega)
  obtain ⟨W, hW⟩ : ∃ W, w.heap.size = W := ⟨_, rfl⟩
  clear hp hv
  go_enter Try.func4, Try.ntmps4
  go_wp2_with fail
  refine (new_any _).mono ?_
  rintro e w1 ⟨rfl, k1, hs1, hN⟩
  have XM := (Bx.new w 51 #[.int .u8 m.k, .int .u16 m.b, .int .u16 m.x, .int .i32 m.lo, .int .i32 m.hi, .slice m.ps.p m.ps.n m.ps.c, .slice m.vs.p m.vs.n m.vs.c]).on k1
  simp only [World.size_alloc, hW] at hs1 hN XM
  have T1 := hN [W + 1 + 1, W + 1] (by simp) (by simp) (fun j hj => by simp at hj; omega)
  have K1 := (bl_new w (.cells #[.int .u8 m.k, .int .u16 m.b, .int .u16 m.x, .int .i32 m.lo, .int .i32 m.hi, .slice m.ps.p m.ps.n m.ps.c, .slice m.vs.p m.vs.n m.vs.c] 51)).on k1
  clear hN k1
  go_wp2_with (first | (refine wpList_load_row rfl 51 _ rfl W rfl 51 #[.int .u8 m.k, .int .u16 m.b, .int .u16 m.x, .int .i32 m.lo, .int .i32 m.hi, .slice m.ps.p m.ps.n m.ps.c, .slice m.vs.p m.vs.n m.vs.c] (0, 0) _ XM Try.underlying51 rfl sizeM ?_) | fail)
  refine (HT _ K1).mono ?_
  rintro e w2 ⟨x, rfl, k2, hx⟩
  have T2 := T1.on k2
  have K2 := K1.on k2
  have hs2 : w1.heap.size ≤ w2.heap.size := k2.size
  have T1h := Lib.hid T1
  have k2h := Lib.hid k2
  clear XM T2 K1 k2 HT T1
  have hxs := hx.s
  have hxp := hx.ps
  have HX := Lib.hid (And.intro hxs (And.intro hxp (And.intro K2 (And.intro hs1 hs2))))
  clear hx hxp K2 hs1 hs2
  clear hxs
  by_cases hfine : 8 ≤ x.k ∧ x.k ≤ 17
  · have d8 : decide (x.k ≥ 8) = true := decide_eq_true hfine.1
    have d17 : decide (x.k ≤ 17) = true := decide_eq_true hfine.2
    have hadd : addP x.k = true := by unfold addP; rw [decide_eq_true hfine.1, decide_eq_true hfine.2]; rfl
    have hx8 := hfine.1
    have hx17 := hfine.2
    clear hfine
    go_wp2_with fail
    obtain ⟨B, hB⟩ : ∃ B, w2.heap.size = B := ⟨_, rfl⟩
    obtain ⟨N1, h1⟩ : ∃ n, B + 1 = n := ⟨_, rfl⟩
    obtain ⟨N2, h2⟩ : ∃ n, N1 + 1 = n := ⟨_, rfl⟩
    obtain ⟨N3, h3⟩ : ∃ n, N2 + 1 = n := ⟨_, rfl⟩
    obtain ⟨N4, h4⟩ : ∃ n, N3 + 1 = n := ⟨_, rfl⟩
    obtain ⟨N5, h5⟩ : ∃ n, N4 + 1 = n := ⟨_, rfl⟩
    simp only [hB, h1, h2, h3, h4, h5]
    obtain ⟨w5, hw5⟩ : ∃ w5, (((((w2.alloc (.cells #[.int .u8 x.k, .string x.m, .string x.n, .int .i64 x.b, .int .i64 x.x, .int .i64 x.lo, .int .i64 x.hi, .slice (some ⟨N1, 0, none⟩) 2 2, .slice (some ⟨N2, 0, none⟩) 1 1, .slice (some ⟨N5, 0, none⟩) 1 1, .slice x.ps.p x.ps.n x.ps.c, .int .i64 x.r] 43)).alloc (.cells #[.string name, .string ⟨#[98]⟩] 9)).alloc (.cells #[.string name, .int .i64 1, .int .i64 0] 54)).alloc (.cells #[.int .i64 1] 2)).alloc (.cells #[.int .i64 2] 2)).alloc (.cells #[.slice (some ⟨N3, 0, none⟩) 1 1, .slice (some ⟨N4, 0, none⟩) 1 1, .bool false] 57) = w5 := ⟨_, rfl⟩
    rw [hw5]
    obtain ⟨X5, C1, C2, C3, C4, C5, S5, K25⟩ := chain6 w2 _ _ _ _ _ _ B N1 N2 N3 N4 N5 hB h1 h2 h3 h4 h5 w5 hw5
    clear hw5
    obtain ⟨hxs, hxp, K2, hs1, hs2⟩ := HX.out
    have T5 : TabK w5 (W + 1 + 1) (W + 1) 10 [W + 1 + 1, W + 1, N1, N2, N3] L0 K0 :=
      T1h.out.keep (N := []) (Fx.of [] (k2h.out.on K25)) (fun j hj => by simp at hj) (fun j hj => by simp only [List.mem_cons, List.not_mem_nil, or_false] at hj ⊢; omega) (by simp) (by simp) (fun j hj => by simp only [List.mem_cons, List.not_mem_nil, or_false] at hj; omega)
    have hH : Has w5 0 ⟨x.k, x.m, x.n, x.b, x.x, x.lo, x.hi, ⟨some ⟨N1, 0, none⟩, 2, 2⟩, ⟨some ⟨N2, 0, none⟩, 1, 1⟩, ⟨some ⟨N5, 0, none⟩, 1, 1⟩, x.ps, x.r⟩ (copK (m.k % 12 + 7) (m.b % 10) (m.x % 10) m.lo m.hi (psL pl vl 10 (min pl.length 6)) name) := by
      refine ⟨⟨hxs.1, hxs.2.1, hxs.2.2.1, hxs.2.2.2.1, hxs.2.2.2.2.1, hxs.2.2.2.2.2.1, hxs.2.2.2.2.2.2.1, hxs.2.2.2.2.2.2.2⟩, row_bx2 C1 rfl rfl, row_bx1 C2 rfl, ⟨[(⟨some ⟨N3, 0, none⟩, 1, 1⟩, ⟨some ⟨N4, 0, none⟩, 1, 1⟩, false)], row_bx1 C5 rfl, rfl, fun i x c hx hc => ?_⟩, (hxp.on K25).low (Nat.zero_le _)⟩
      match i, hx, hc with
      | 0, hx, hc =>
        injection hx with hx
        injection hc with hc
        subst hx hc
        exact ⟨row_bx1 C3 rfl, row_bx1 C4 rfl, rfl⟩
      | i + 1, hx, hc => simp at hx
    have hok : (copK (m.k % 12 + 7) (m.b % 10) (m.x % 10) m.lo m.hi (psL pl vl 10 (min pl.length 6)) name).ok := ⟨by have := ho.k; show 0 ≤ m.k % 12 + 7 ∧ m.k % 12 + 7 ≤ 255; omega, by simp [copK], by simp [copK], by simp [copK], fun a ha => by simp [copK] at ha; rw [ha]; exact ⟨by simp, by simp⟩, by show (psL _ _ _ _).length ≤ _; rw [psL_len]; have := Nat.min_le_right pl.length 6; omega⟩
    refine (add_ok T5 ⟨x.k, x.m, x.n, x.b, x.x, x.lo, x.hi, ⟨some ⟨N1, 0, none⟩, 2, 2⟩, ⟨some ⟨N2, 0, none⟩, 1, 1⟩, ⟨some ⟨N5, 0, none⟩, 1, 1⟩, x.ps, x.r⟩ _ hH hok hadd (by decide)).mono ?_
    rintro e w6 ⟨rfl, hF, y, g', cap', hg, hgl, hT⟩
    have T6 := hT [W + 1 + 1, g', N1, N2, N3] (by simp) (by simp) (fun j hj => by simp only [List.mem_cons, List.not_mem_nil, or_false] at hj ⊢; omega)
    clear hT
    have hblk : ∀ j, j < w5.heap.size → j ≠ W + 1 + 1 → j ≠ W + 1 → w6.heap[j]? = w5.heap[j]? := fun j hj a b => hF.block j hj (by simp; exact ⟨a, b⟩)
    have X6 : Bx w6 B 43 #[.int .u8 x.k, .string x.m, .string x.n, .int .i64 x.b, .int .i64 x.x, .int .i64 x.lo, .int .i64 x.hi, .slice (some ⟨N1, 0, none⟩) 2 2, .slice (some ⟨N2, 0, none⟩) 1 1, .slice (some ⟨N5, 0, none⟩) 1 1, .slice x.ps.p x.ps.n x.ps.c, .int .i64 x.r] := (hblk B (by omega) (by omega) (by omega)).trans X5
    have D1 : Bx w6 N1 9 #[.string name, .string ⟨#[98]⟩] := (hblk N1 (by omega) (by omega) (by omega)).trans C1
    have D2 : Bx w6 N2 54 #[.string name, .int .i64 1, .int .i64 0] := (hblk N2 (by omega) (by omega) (by omega)).trans C2
    have D3 : Bx w6 N3 2 #[.int .i64 1] := (hblk N3 (by omega) (by omega) (by omega)).trans C3
    have D5 : Bx w6 N5 57 #[.slice (some ⟨N3, 0, none⟩) 1 1, .slice (some ⟨N4, 0, none⟩) 1 1, .bool false] := (hblk N5 (by omega) (by omega) (by omega)).trans C5
    have K6 : Bl w w6 := (K2.on K25).trans (hF.low (by have := K2.size; have := K25.size; omega) (fun j hj => by simp only [List.mem_cons, List.not_mem_nil, or_false] at hj; omega))
    have HH6 := Lib.hid (And.intro T6 (And.intro X6 (And.intro K6 (And.intro hok (And.intro S5 (And.intro hF.size (And.intro hs1 (And.intro hs2 hg))))))))
    have x7 := (X6.at 7).1
    have x8 := (X6.at 8).1
    have x9 := (X6.at 9).1
    obtain ⟨n0, nf⟩ := D1.at 0
    obtain ⟨f0, ff0⟩ := D2.at 0
    obtain ⟨f1, ff1⟩ := D2.at 1
    obtain ⟨f2, ff2⟩ := D2.at 2
    obtain ⟨i0, if0⟩ := D3.at 0
    obtain ⟨a0, _⟩ := D5.at 0
    simp only [List.getElem?_toArray, List.getElem?_cons_zero, List.getElem?_cons_succ] at x7 x8 x9 n0 f0 f1 f2 i0 a0
    clear T5 hH hok hF hgl hblk X6 D1 D2 D3 D5 K6 X5 C1 C2 C3 C4 C5 K25 T6 hxs hxp K2 HX T1h k2h
    have HNN := Lib.hid (And.intro hB (And.intro h1 (And.intro h2 (And.intro h3 (And.intro h4 h5)))))
    have q1 : ¬ N1 = B := by omega
    have q2 : ¬ N2 = B := by omega
    have q3 : ¬ N3 = B := by omega
    have q4 : ¬ N1 = N2 := by omega
    have q5 : ¬ N2 = N1 := by omega
    have q6 : ¬ N1 = N3 := by omega
    have q7 : ¬ N2 = N3 := by omega
    have q8 : ¬ N1 = N5 := by omega
    have q9 : ¬ N2 = N5 := by omega
    have q10 : ¬ N3 = N5 := by omega
    have q11 : ¬ N3 = N1 := by omega
    have q12 : ¬ N3 = N2 := by omega
    have q13 : ¬ B = N1 := by omega
    have q14 : ¬ B = N2 := by omega
    have q15 : ¬ B = N3 := by omega
    have q16 : ¬ N5 = N1 := by omega
    have q17 : ¬ N5 = N2 := by omega
    clear hB h1 h2 h3 h4 h5 hg hs1 hs2 S5
    simp only [show ((L0.length : Nat) : Int) = 10 from rfl]
    go_wp2_with fail
    obtain ⟨w7, hw7⟩ : ∃ w7, ((((w6.setCell ⟨N1, 0, none⟩ (.string (name ++ ⟨#[120]⟩))).setCell ⟨N2, 0, none⟩ (.string ⟨#[111, 116, 104, 101, 114]⟩)).setCell ⟨N2, 1, none⟩ (.int .i64 0)).setCell ⟨N2, 2, none⟩ (.int .i64 0)).setCell ⟨N3, 0, none⟩ (.int .i64 9) = w7 := ⟨_, rfl⟩
    rw [hw7]
    clear x7 x8 x9 n0 nf f0 ff0 f1 ff1 f2 ff2 i0 if0 a0 q1 q2 q3 q4 q5 q6 q7 q8 q9 q10 q11 q12 q13 q14 q15 q16 q17
    obtain ⟨T6, X6, K6, hok, S5, hs6, hs1, hs2, hg⟩ := HH6.out
    obtain ⟨hB, h1, h2, h3, h4, h5⟩ := HNN.out
    clear HH6 HNN
    have F67 : Fx [N1, N2, N3] w6 w7 := by
      rw [← hw7]
      exact (((((Fx.refl _ _).cell (by simp) _ _).cell (by simp) _ _).cell (by simp) _ _).cell (by simp) _ _).cell (by simp) _ _
    clear hw7
    have hlt7 : ∀ j ∈ [W + 1 + 1, g', N1, N2, N3], j < w7.heap.size := fun j hj => Nat.lt_of_lt_of_le (T6.lt j hj) F67.size
    have T7 : TabK w7 (W + 1 + 1) g' cap' [W + 1 + 1, g', N1, N2, N3] (L0 ++ [y]) (K0 ++ [copK (m.k % 12 + 7) (m.b % 10) (m.x % 10) m.lo m.hi (psL pl vl 10 (min pl.length 6)) name]) :=
      T6.keep F67 (fun j hj => by
        simp only [List.mem_cons, List.not_mem_nil, or_false] at hj ⊢
        rcases hg with hg | hg <;> omega) (fun j hj => .inl hj) (by simp) (by simp) hlt7
    have X7 : Bx w7 B 43 #[.int .u8 x.k, .string x.m, .string x.n, .int .i64 x.b, .int .i64 x.x, .int .i64 x.lo, .int .i64 x.hi, .slice (some ⟨N1, 0, none⟩) 2 2, .slice (some ⟨N2, 0, none⟩) 1 1, .slice (some ⟨N5, 0, none⟩) 1 1, .slice x.ps.p x.ps.n x.ps.c, .int .i64 x.r] := (F67.block B (by omega) (by simp; omega)).trans X6
    have K7 : Bl w w7 := K6.trans (F67.low (by have := K6.size; omega) (fun j hj => by simp only [List.mem_cons, List.not_mem_nil, or_false] at hj; omega))
    have hp7 : 0 < w7.heap.size := by have := hlt7 N1 (by simp); omega
    have hBg : B ≠ W + 1 + 1 ∧ B ≠ g' ∧ W ≤ g' ∧ B < w7.heap.size := by
      have := hlt7 N1 (by simp)
      rcases hg with hg | hg <;> omega
    have H7 := Lib.hid (And.intro T7 (And.intro X7 (And.intro K7 (And.intro hBg hp7))))
    clear hBg
    clear T6 X6 K6 hok S5 hs6 hs1 hs2 hg hB h1 h2 h3 h4 h5 F67 hlt7 X7 K7
    refine (get_any T7 10).mono ?_
    rintro e w8 ⟨y1, rfl, k8, hy1⟩
    have hy1 : Has w8 w7.heap.size y1 (copK (m.k % 12 + 7) (m.b % 10) (m.x % 10) m.lo m.hi (psL pl vl 10 (min pl.length 6)) name) := hy1
    obtain ⟨gn, on, cn, gf, of, cf, gr, oo, cr, ga, oa, ca, e1, e2, e3, c1, fz1, c2, c3, c4, fz4, b1, b4, l1, l2, l3, l4⟩ := tc_unpack hy1 hp7
    obtain ⟨yk, ym, yn, yb, yx, ylo, yhi, yns, yfs, yrs, yps, yr⟩ := y1
    simp only at e1 e2 e3 ⊢
    subst e1 e2 e3
    clear hy1 T7 hp7
    obtain ⟨Y, hY⟩ : ∃ Y, w8.heap.size = Y := ⟨_, rfl⟩
    have H8 := Lib.hid (And.intro k8 (And.intro b1 (And.intro b4 (And.intro l1 (And.intro l2 (And.intro l3 (And.intro l4 hY)))))))
    have u1 : ∀ o, (w8.alloc o).cell? ⟨gn, on, none⟩ = some (.string name) := fun o => ((bl_new w8 o).cell (p := ⟨gn, on, none⟩) l1).trans c1
    have u2 : ∀ o, (w8.alloc o).cell? ⟨gf, of, none⟩ = some (.string name) := fun o => ((bl_new w8 o).cell (p := ⟨gf, of, none⟩) l2).trans c2
    have u3 : ∀ o, (w8.alloc o).cell? ⟨gr, oo, none⟩ = some (.slice (some ⟨ga, oa, none⟩) 1 ca) := fun o => ((bl_new w8 o).cell (p := ⟨gr, oo, none⟩) l3).trans c3
    have u4 : ∀ o, (w8.alloc o).cell? ⟨ga, oa, none⟩ = some (.int .i64 1) := fun o => ((bl_new w8 o).cell (p := ⟨ga, oa, none⟩) l4).trans c4
    clear k8 b1 b4 l1 l2 l3 l4
    go_upto_region 20 with fail
    obtain ⟨w9, hw9⟩ : ∃ w9, w8.alloc (.cells #[.int .u8 yk, .string ym, .string yn, .int .i64 yb, .int .i64 yx, .int .i64 ylo, .int .i64 yhi, .slice (some ⟨gn, on, none⟩) 2 cn, .slice (some ⟨gf, of, none⟩) 1 cf, .slice (some ⟨gr, oo, none⟩) 1 cr, .slice yps.p yps.n yps.c, .int .i64 yr] 43) = w9 := ⟨_, rfl⟩
    rw [hw9]
    obtain ⟨k8, b1, b4, l1, l2, l3, l4, _⟩ := H8.out
    have k89 : Bl w8 w9 := by rw [← hw9]; exact bl_new _ _
    have Y9 : Bx w9 Y 43 #[.int .u8 yk, .string ym, .string yn, .int .i64 yb, .int .i64 yx, .int .i64 ylo, .int .i64 yhi, .slice (some ⟨gn, on, none⟩) 2 cn, .slice (some ⟨gf, of, none⟩) 1 cf, .slice (some ⟨gr, oo, none⟩) 1 cr, .slice yps.p yps.n yps.c, .int .i64 yr] := by rw [← hw9, ← hY]; exact Bx.new _ _ _
    have c1 := (k89.cell (p := ⟨gn, on, none⟩) l1).trans c1
    have c3 := (k89.cell (p := ⟨gr, oo, none⟩) l3).trans c3
    have c4 := (k89.cell (p := ⟨ga, oa, none⟩) l4).trans c4
    have fz1 := (World.frozen?_of_block (a := ⟨gn, on, none⟩) (k89.block gn l1)).trans fz1
    have fz4 := (World.frozen?_of_block (a := ⟨ga, oa, none⟩) (k89.block ga l4)).trans fz4
    have y7 := (Y9.at 7).1
    have y9 := (Y9.at 9).1
    simp only [List.getElem?_toArray, List.getElem?_cons_zero, List.getElem?_cons_succ] at y7 y9
    have H9 := Lib.hid (And.intro k89 (And.intro c3 (And.intro c4 (And.intro fz4 (And.intro y9 c1)))))
    clear k8 b1 b4 l1 l2 l3 l4 k89 Y9 hw9 c2 c3 c4 fz4 y9 hY
    go_upto_region 21 with fail
    obtain ⟨w10, hw10⟩ : ∃ w10, w9.setCell ⟨gn, on, none⟩ (.string (⟨#[122]⟩ ++ name)) = w10 := ⟨_, rfl⟩
    rw [hw10]
    obtain ⟨k8, b1, b4, l1, l2, l3, l4, hY⟩ := H8.out
    obtain ⟨k89, c3, c4, fz4, y9, c1'⟩ := H9.out
    have d3 : w10.cell? ⟨gr, oo, none⟩ = some (.slice (some ⟨ga, oa, none⟩) 1 ca) := by
      rw [← hw10, World.cell?_setCell_other _ _ _ _ (by intro e; rw [e, c3] at c1'; cases c1')]
      exact c3
    have d4 : w10.cell? ⟨ga, oa, none⟩ = some (.int .i64 1) := by
      rw [← hw10, World.cell?_setCell_other _ _ _ _ (by intro e; rw [e, c4] at c1'; cases c1')]
      exact c4
    have d9 : w10.cell? ⟨Y, 9, none⟩ = some (.slice (some ⟨gr, oo, none⟩) 1 cr) := by
      rw [← hw10, World.cell?_setCell_other _ _ _ _ (by intro e; injection e with e; omega)]
      exact y9
    have df : w10.frozen? ⟨ga, oa, none⟩ = false := by
      rw [← hw10]
      have := World.frozen?_setCells gn [.string (⟨#[122]⟩ ++ name)] on w9 ⟨ga, oa, none⟩
      simp only [World.setCells] at this
      rw [this]
      exact fz4
    have K10 : Below w7.heap.size w7 w10 := by
      rw [← hw10]
      exact (k8.on k89).setCell (by exact b1) _
    have H10 := Lib.hid (And.intro K10 b4)
    clear k8 b1 b4 l1 l2 l3 l4 k89 c3 c4 fz4 y9 c1' c1 fz1 y7 hw10 K10 H9 hY
    go_wp2_with fail
    obtain ⟨w11, hw11⟩ : ∃ w11, w10.setCell ⟨ga, oa, none⟩ (.int .i64 8) = w11 := ⟨_, rfl⟩
    rw [hw11]
    have K11 : Bl w7 w11 := by rw [← hw11]; exact H10.out.1.setCell (by exact H10.out.2) _
    obtain ⟨T7, X7, K7, hBg, hp7⟩ := H7.out
    have T11 := T7.on K11
    have hp11 : 0 < w11.heap.size := by have := K11.size; omega
    have H11 := Lib.hid (And.intro T11 (And.intro (X7.on K11) (And.intro (K7.on K11) (show B ≠ W + 1 + 1 ∧ B ≠ g' ∧ W ≤ g' ∧ B < w11.heap.size from ⟨hBg.1, hBg.2.1, hBg.2.2.1, Nat.lt_of_lt_of_le hBg.2.2.2 K11.size⟩))))
    clear H7 H8 H10 hw11 K11 T7 X7 K7 hBg hp7 d3 d4 d9 df
    refine (get_any T11 10).mono ?_
    rintro e w12 ⟨y2, rfl, k12, hy2⟩
    have hy2 : Has w12 w11.heap.size y2 (copK (m.k % 12 + 7) (m.b % 10) (m.x % 10) m.lo m.hi (psL pl vl 10 (min pl.length 6)) name) := hy2
    obtain ⟨gn2, on2, cn2, gf2, of2, cf2, gr2, oo2, cr2, ga2, oa2, ca2, e1, e2, e3, c1, fz1, c2, c3, c4, fz4, b1, b4, l1, l2, l3, l4⟩ := tc_unpack hy2 hp11
    obtain ⟨zk, zm, zn, zb, zx, zlo, zhi, zns, zfs, zrs, zps, zr⟩ := y2
    simp only at e1 e2 e3 ⊢
    subst e1 e2 e3
    obtain ⟨Z, hZ⟩ : ∃ Z, w12.heap.size = Z := ⟨_, rfl⟩
    have v1 : ∀ o, (w12.alloc o).cell? ⟨gn2, on2, none⟩ = some (.string name) := fun o => ((bl_new w12 o).cell (p := ⟨gn2, on2, none⟩) l1).trans c1
    have v2 : ∀ o, (w12.alloc o).cell? ⟨gf2, of2, none⟩ = some (.string name) := fun o => ((bl_new w12 o).cell (p := ⟨gf2, of2, none⟩) l2).trans c2
    have v3 : ∀ o, (w12.alloc o).cell? ⟨gr2, oo2, none⟩ = some (.slice (some ⟨ga2, oa2, none⟩) 1 ca2) := fun o => ((bl_new w12 o).cell (p := ⟨gr2, oo2, none⟩) l3).trans c3
    have v4 : ∀ o, (w12.alloc o).cell? ⟨ga2, oa2, none⟩ = some (.int .i64 1) := fun o => ((bl_new w12 o).cell (p := ⟨ga2, oa2, none⟩) l4).trans c4
    have H12 := Lib.hid k12
    clear hy2 T11 hp11 k12 fz1 fz4 b1 b4 u1 u2 u3 u4 l1 l2 l3 l4
    go_wp2_with fail
    obtain ⟨w13, hw13⟩ : ∃ w13, w12.alloc (.cells #[.int .u8 zk, .string zm, .string zn, .int .i64 zb, .int .i64 zx, .int .i64 zlo, .int .i64 zhi, .slice (some ⟨gn2, on2, none⟩) 2 cn2, .slice (some ⟨gf2, of2, none⟩) 1 cf2, .slice (some ⟨gr2, oo2, none⟩) 1 cr2, .slice zps.p zps.n zps.c, .int .i64 zr] 43) = w13 := ⟨_, rfl⟩
    rw [hw13]
    have k13 : Bl w11 w13 := by rw [← hw13]; exact H12.out.on (bl_new _ _)
    clear hw13 v1 v2 v3 v4 c1 c2 c3 c4 hZ
    obtain ⟨T11, X11, K11, hBg⟩ := H11.out
    have T13 := T11.on k13
    have X13 := X11.on k13
    have K13 := K11.on k13
    have hs13 := k13.size
    clear T11 X11 K11 k13
    refine (add_ok T13 (fwT name) (fwK name) (fw_has name _ _) (fw_ok name) rfl (by show 11 < 1024; omega)).mono ?_
    rintro e w14 ⟨rfl, hF, y5, g2, cap2, hg2, hgl2, hT⟩
    have T14 := hT [W + 1 + 1, g2] (by simp) (by simp) (fun j hj => by
      simp only [List.mem_cons, List.not_mem_nil, or_false] at hj ⊢
      rcases hj with rfl | rfl
      · exact .inl (.inl rfl)
      · exact .inr rfl)
    have X14 := (hF.block B (by omega) (by simp; exact ⟨hBg.1, hBg.2.1⟩)).trans X13
    have K14 : Bl w w14 := K13.trans (hF.low (by have := K13.size; omega) (fun j hj => by simp only [List.mem_cons, List.not_mem_nil, or_false] at hj; rcases hj with rfl | rfl <;> omega))
    have hg2B : B ≠ g2 ∧ W ≤ g2 := by have := K13.size; rcases hg2 with h | h <;> omega
    have hB14 : B < w14.heap.size := by have := hF.size; omega
    have hk17 : kindP (L0 ++ [y] ++ [y5]) (11 : Nat) = 17 := (T14.at 11).1.s.1
    clear hT hF hg2 hgl2 T13 X13 K13 hs13 hBg
    have H14 := Lib.hid (And.intro T14 (And.intro X14 (And.intro K14 (And.intro hg2B hB14))))
    clear X14 K14 hg2B hB14
    simp only [show (((L0 ++ [y]).length : Nat) : Int) = 11 from rfl]
    have HS1 := set_ok T14 11 (by show 11 < 12; omega) hk17 (pvT 10) (pvK 10) (pv_has 10 _ _) (pv_ok 10) rfl
    unfold pvT TyV.val at HS1
    simp only [Sl.no] at HS1
    clear T14 hk17
    go_wp2_with fail
    refine HS1.mono ?_
    rintro e w15 ⟨rfl, hF2, y6, T15⟩
    obtain ⟨T14, X14, K14, hg2B, hB14⟩ := H14.out
    have X15 := (hF2.block B hB14 (by simp; exact hg2B.1)).trans X14
    have K15 : Bl w w15 := K14.trans (hF2.low (by have := K14.size; omega) (fun j hj => by simp only [List.mem_cons, List.not_mem_nil, or_false] at hj; omega))
    have hk14 : (kindP ((L0 ++ [y] ++ [y5]).set 11 y6) 11 == 17) = false := by
      have : kindP ((L0 ++ [y] ++ [y5]).set 11 y6) 11 = 14 := (T15.at 11).1.s.1
      rw [this]; rfl
    have HS2 := set_no T15 11 (pvT 1) hk14
    unfold pvT TyV.val at HS2
    simp only [Sl.no] at HS2
    have H15 := Lib.hid (And.intro T15 (And.intro X15 K15))
    clear HS1 hF2 T14 X14 K14 hg2B hB14 T15 X15 K15 hk14 H14
    go_wp2_with fail
    refine HS2.mono ?_
    rintro e w16 ⟨rfl, k16⟩
    obtain ⟨T15, X15, K15⟩ := H15.out
    have T16 := T15.on k16
    have HG := get_any T16 11
    have hfd := fieldTy3
    have H16 := Lib.hid (And.intro T16 (And.intro (show Bx w16 B 43 (arrV (⟨x.k, x.m, x.n, x.b, x.x, x.lo, x.hi, ⟨some ⟨N1, 0, none⟩, 2, 2⟩, ⟨some ⟨N2, 0, none⟩, 1, 1⟩, ⟨some ⟨N5, 0, none⟩, 1, 1⟩, x.ps, x.r⟩ : TyV)) from Bx.on X15 k16) (K15.on k16)))
    clear HS2 T15 X15 K15 T16 k16 H15
    go_wp2_with fail
    refine HG.mono ?_
    rintro e w17 ⟨y7, rfl, k17, hy7⟩
    have hyb : y7.b = 10 := hy7.s.2.2.2.1
    obtain ⟨T16, X16, K16⟩ := H16.out
    have HS3 := set_no (T16.on k17) 1 (⟨x.k, x.m, x.n, x.b, x.x, x.lo, x.hi, ⟨some ⟨N1, 0, none⟩, 2, 2⟩, ⟨some ⟨N2, 0, none⟩, 1, 1⟩, ⟨some ⟨N5, 0, none⟩, 1, 1⟩, x.ps, x.r⟩ : TyV) rfl
    have HX := (Bx.all (x := (⟨x.k, x.m, x.n, x.b, x.x, x.lo, x.hi, ⟨some ⟨N1, 0, none⟩, 2, 2⟩, ⟨some ⟨N2, 0, none⟩, 1, 1⟩, ⟨some ⟨N5, 0, none⟩, 1, 1⟩, x.ps, x.r⟩ : TyV)) (X16.on k17))
    have HW := works_any
    have H17 := Lib.hid (K16.on k17)
    obtain ⟨zk, zm, zn, zb, zx, zlo, zhi, zns, zfs, zrs, zps, zr⟩ := y7
    simp only at hyb HS3 HX ⊢
    subst hyb
    obtain ⟨r0, r1, r2, r3, r4, r5, r6, r7, r8, r9, r10, r11⟩ := HX
    clear T16 X16 K16 hy7 k17 HG H16
    go_wp2_with fail
    refine HS3.mono ?_
    rintro e w18 ⟨rfl, k18⟩
    have H18 := Lib.hid (H17.out.on k18)
    clear k18 HS3 H17 r0 r1 r2 r3 r4 r5 r6 r7 r8 r9 r10 r11
    go_wp2_with fail
    refine (HW _).mono ?_
    rintro e w19 ⟨rfl, k19⟩
    have H19 := Lib.hid (H18.out.on k19)
    clear k19 H18
    go_wp2_with fail
    go_ret
    exact ⟨rfl, H19.out⟩
  · have hadd : addP x.k = false := by
      unfold addP
      rcases Int.lt_or_le x.k 8 with h | h
      · rw [decide_eq_false (show ¬ 8 ≤ x.k by omega)]; rfl
      · rw [decide_eq_false (show ¬ x.k ≤ 17 by omega), Bool.and_false]
    have hcase : (decide (x.k ≥ 8) = false) ∨ (decide (x.k ≥ 8) = true ∧ decide (x.k ≤ 17) = false) := by
      rcases Int.lt_or_le x.k 8 with h | h
      · exact .inl (decide_eq_false (by omega))
      · exact .inr ⟨decide_eq_true h, decide_eq_false (by omega)⟩
    have hc2 : (x.k < 8) ∨ (8 ≤ x.k ∧ 17 < x.k) := by omega
    have HW := works_any
    clear hfine hcase
    rcases hc2 with hc2 | ⟨hc2, hc3⟩
    · have d8 : decide (x.k ≥ 8) = false := decide_eq_false (by omega)
      go_wp2_with fail
      obtain ⟨B, hB⟩ : ∃ B, w2.heap.size = B := ⟨_, rfl⟩
      obtain ⟨N1, h1⟩ : ∃ n, B + 1 = n := ⟨_, rfl⟩
      obtain ⟨N2, h2⟩ : ∃ n, N1 + 1 = n := ⟨_, rfl⟩
      obtain ⟨N3, h3⟩ : ∃ n, N2 + 1 = n := ⟨_, rfl⟩
      obtain ⟨N4, h4⟩ : ∃ n, N3 + 1 = n := ⟨_, rfl⟩
      obtain ⟨N5, h5⟩ : ∃ n, N4 + 1 = n := ⟨_, rfl⟩
      simp only [hB, h1, h2, h3, h4, h5]
      obtain ⟨w5, hw5⟩ : ∃ w5, (((((w2.alloc (.cells #[.int .u8 x.k, .string x.m, .string x.n, .int .i64 x.b, .int .i64 x.x, .int .i64 x.lo, .int .i64 x.hi, .slice (some ⟨N1, 0, none⟩) 2 2, .slice (some ⟨N2, 0, none⟩) 1 1, .slice (some ⟨N5, 0, none⟩) 1 1, .slice x.ps.p x.ps.n x.ps.c, .int .i64 x.r] 43)).alloc (.cells #[.string name, .string ⟨#[98]⟩] 9)).alloc (.cells #[.string name, .int .i64 1, .int .i64 0] 54)).alloc (.cells #[.int .i64 1] 2)).alloc (.cells #[.int .i64 2] 2)).alloc (.cells #[.slice (some ⟨N3, 0, none⟩) 1 1, .slice (some ⟨N4, 0, none⟩) 1 1, .bool false] 57) = w5 := ⟨_, rfl⟩
      rw [hw5]
      obtain ⟨X5, C1, C2, C3, C4, C5, S5, K25⟩ := chain6 w2 _ _ _ _ _ _ B N1 N2 N3 N4 N5 hB h1 h2 h3 h4 h5 w5 hw5
      clear hw5
      obtain ⟨hxs, hxp, K2, hs1, hs2⟩ := HX.out
      have T5 := (T1h.out.on k2h.out).on K25
      have HK := Lib.hid (K2.on K25)
      have HA := add_no T5 ((⟨x.k, x.m, x.n, x.b, x.x, x.lo, x.hi, ⟨some ⟨N1, 0, none⟩, 2, 2⟩, ⟨some ⟨N2, 0, none⟩, 1, 1⟩, ⟨some ⟨N5, 0, none⟩, 1, 1⟩, x.ps, x.r⟩ : TyV)) hadd
      clear X5 C1 C2 C3 C4 C5 S5 K25 T5 hxs hxp K2 hs1 hs2 hB h1 h2 h3 h4 h5 HX T1h k2h
      refine HA.mono ?_
      rintro e w6 ⟨rfl, k6⟩
      have HK := Lib.hid (HK.out.on k6)
      clear k6 HA
      go_wp2_with fail
      refine (HW _).mono ?_
      rintro e w7 ⟨rfl, k7⟩
      have HK := Lib.hid (HK.out.on k7)
      clear k7
      go_wp2_with fail
      go_ret
      exact ⟨rfl, HK.out⟩
    · have d8 : decide (x.k ≥ 8) = true := decide_eq_true hc2
      have d17 : decide (x.k ≤ 17) = false := decide_eq_false (by omega)
      go_wp2_with fail
      obtain ⟨B, hB⟩ : ∃ B, w2.heap.size = B := ⟨_, rfl⟩
      obtain ⟨N1, h1⟩ : ∃ n, B + 1 = n := ⟨_, rfl⟩
      obtain ⟨N2, h2⟩ : ∃ n, N1 + 1 = n := ⟨_, rfl⟩
      obtain ⟨N3, h3⟩ : ∃ n, N2 + 1 = n := ⟨_, rfl⟩
      obtain ⟨N4, h4⟩ : ∃ n, N3 + 1 = n := ⟨_, rfl⟩
      obtain ⟨N5, h5⟩ : ∃ n, N4 + 1 = n := ⟨_, rfl⟩
      simp only [hB, h1, h2, h3, h4, h5]
      obtain ⟨w5, hw5⟩ : ∃ w5, (((((w2.alloc (.cells #[.int .u8 x.k, .string x.m, .string x.n, .int .i64 x.b, .int .i64 x.x, .int .i64 x.lo, .int .i64 x.hi, .slice (some ⟨N1, 0, none⟩) 2 2, .slice (some ⟨N2, 0, none⟩) 1 1, .slice (some ⟨N5, 0, none⟩) 1 1, .slice x.ps.p x.ps.n x.ps.c, .int .i64 x.r] 43)).alloc (.cells #[.string name, .string ⟨#[98]⟩] 9)).alloc (.cells #[.string name, .int .i64 1, .int .i64 0] 54)).alloc (.cells #[.int .i64 1] 2)).alloc (.cells #[.int .i64 2] 2)).alloc (.cells #[.slice (some ⟨N3, 0, none⟩) 1 1, .slice (some ⟨N4, 0, none⟩) 1 1, .bool false] 57) = w5 := ⟨_, rfl⟩
      rw [hw5]
      obtain ⟨X5, C1, C2, C3, C4, C5, S5, K25⟩ := chain6 w2 _ _ _ _ _ _ B N1 N2 N3 N4 N5 hB h1 h2 h3 h4 h5 w5 hw5
      clear hw5
      obtain ⟨hxs, hxp, K2, hs1, hs2⟩ := HX.out
      have T5 := (T1h.out.on k2h.out).on K25
      have HK := Lib.hid (K2.on K25)
      have HA := add_no T5 ((⟨x.k, x.m, x.n, x.b, x.x, x.lo, x.hi, ⟨some ⟨N1, 0, none⟩, 2, 2⟩, ⟨some ⟨N2, 0, none⟩, 1, 1⟩, ⟨some ⟨N5, 0, none⟩, 1, 1⟩, x.ps, x.r⟩ : TyV)) hadd
      clear X5 C1 C2 C3 C4 C5 S5 K25 T5 hxs hxp K2 hs1 hs2 hB h1 h2 h3 h4 h5 HX T1h k2h
      refine HA.mono ?_
      rintro e w6 ⟨rfl, k6⟩
      have HK := Lib.hid (HK.out.on k6)
      clear k6 HA
      go_wp2_with fail
      refine (HW _).mono ?_
      rintro e w7 ⟨rfl, k7⟩
      have HK := Lib.hid (HK.out.on k7)
      clear k7
      go_wp2_with fail
      go_ret
      exact ⟨rfl, HK.out⟩
end Go.Proofs.Ytepfknfadpkigaa
