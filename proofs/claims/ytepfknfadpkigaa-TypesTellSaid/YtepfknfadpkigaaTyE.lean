/- Package types: a type is copied. -/
import Derived.Test.YtepfknfadpkigaaTyD
namespace Go.Proofs.Ytepfknfadpkigaa
open Go.RowKit
set_option maxHeartbeats 1000000
set_option maxRecDepth 100000
set_option linter.unusedVariables false
set_option linter.unusedSimpArgs false

/-- What a type holds. -/
structure TyK where
  k : Int
  m : ByteArray
  n : ByteArray
  b : Int
  x : Int
  lo : Int
  hi : Int
  ns : List ByteArray
  fs : List (ByteArray × Int × Int)
  rs : List (List Int × List Int × Bool)
  ps : List (Bool × Int)
  r : Int
structure TyK.ok (c : TyK) : Prop where
  k : 0 ≤ c.k ∧ c.k ≤ 255
  ns : c.ns.length ≤ 1048576
  fs : c.fs.length ≤ 1048576
  rs : c.rs.length ≤ 1048576
  ar : ∀ a ∈ c.rs, arOk a
  ps : c.ps.length ≤ 1048576
def TyK.z : TyK := ⟨0, ⟨#[]⟩, ⟨#[]⟩, 0, 0, 0, 0, [], [], [], [], 0⟩
structure Has (w : World) (B : Nat) (x : TyV) (c : TyK) : Prop where
  s : x.k = c.k ∧ x.m = c.m ∧ x.n = c.n ∧ x.b = c.b ∧ x.x = c.x ∧ x.lo = c.lo ∧ x.hi = c.hi ∧ x.r = c.r
  ns : Row w B x.ns encSt 1 c.ns
  fs : Row w B x.fs encFi 3 c.fs
  rs : RowAr w B x.rs c.rs
  ps : Row w B x.ps encPa 2 c.ps
theorem Has.on {w w' : World} {B : Nat} {x : TyV} {c : TyK} (h : Has w B x c) (k : Bl w w') : Has w' B x c := ⟨h.s, h.ns.on k, h.fs.on k, h.rs.on k, h.ps.on k⟩
theorem Has.low {w : World} {B B' : Nat} {x : TyV} {c : TyK} (h : Has w B x c) (hb : B' ≤ B) : Has w B' x c := ⟨h.s, h.ns.low hb, h.fs.low hb, h.rs.low hb, h.ps.low hb⟩
theorem Has.farR {w : World} {B : Nat} {x : TyV} {c : TyK} (h : Has w B x c) {b : Nat} (hb : b < B) (ds : Array Value) : Has (w.setRow b ds) B x c := ⟨h.s, h.ns.farR hb ds, h.fs.farR hb ds, h.rs.farR hb ds, h.ps.farR hb ds⟩
theorem has_z (w : World) (B : Nat) : Has w B .z .z := ⟨⟨rfl, rfl, rfl, rfl, rfl, rfl, rfl, rfl⟩, row_nil _ _ _ _, row_nil _ _ _ _, row_nilA _ _, row_nil _ _ _ _⟩
theorem copied_any (x : TyV) (c : TyK) (w : World) (h : Has w 0 x c) (ho : c.ok) : Calls Try.prog 32 #[x.val] w fun e w' => ∃ y : TyV, e = .returned y.val ∧ Bl w w' ∧ Has w' w.heap.size y c := by
  have H0 : ∀ w1, Bl w w1 → Calls Try.prog 47 #[.slice x.ns.p x.ns.n x.ns.c, .func (.func 48) #[] #[]] w1 fun e w' => ∃ u : Sl, e = .returned (.slice u.p u.n u.c) ∧ Bl w1 w' ∧ Row w' w1.heap.size u encSt 1 c.ns := fun w1 k => copiesSt x.ns c.ns w1 (h.ns.on k) ho.ns
  have H1 : ∀ w1, Bl w w1 → Calls Try.prog 49 #[.slice x.fs.p x.fs.n x.fs.c, .func (.func 50) #[] #[]] w1 fun e w' => ∃ u : Sl, e = .returned (.slice u.p u.n u.c) ∧ Bl w1 w' ∧ Row w' w1.heap.size u encFi 3 c.fs := fun w1 k => copiesFi x.fs c.fs w1 (h.fs.on k) ho.fs
  have H2 : ∀ w1, Bl w w1 → Calls Try.prog 51 #[.slice x.rs.p x.rs.n x.rs.c, .func (.func 52) #[] #[]] w1 fun e w' => ∃ u : Sl, e = .returned (.slice u.p u.n u.c) ∧ Bl w1 w' ∧ RowAr w' w1.heap.size u c.rs := fun w1 k => copiesAr x.rs c.rs w1 (h.rs.on k) ho.rs ho.ar
  have H3 : ∀ w1, Bl w w1 → Calls Try.prog 53 #[.slice x.ps.p x.ps.n x.ps.c, .func (.func 54) #[] #[]] w1 fun e w' => ∃ u : Sl, e = .returned (.slice u.p u.n u.c) ∧ Bl w1 w' ∧ Row w' w1.heap.size u encPa 2 c.ps := fun w1 k => copiesPa x.ps c.ps w1 (h.ps.on k) ho.ps
  have HS := Lib.hid h.s
  clear h ho
  obtain ⟨W, hW⟩ : ∃ W, w.heap.size = W := ⟨_, rfl⟩
  have HWW := Lib.hid hW
  go_enter Try.func32, Try.ntmps32
  go_wp2_with fail
  obtain ⟨w0, hw0⟩ : ∃ w0, (w.alloc (.cells #[.int .u8 x.k, .string x.m, .string x.n, .int .i64 x.b, .int .i64 x.x, .int .i64 x.lo, .int .i64 x.hi, .slice x.ns.p x.ns.n x.ns.c, .slice x.fs.p x.fs.n x.fs.c, .slice x.rs.p x.rs.n x.rs.c, .slice x.ps.p x.ps.n x.ps.c, .int .i64 x.r] 43)).alloc (.cells #[.int .u8 0, .string ⟨#[]⟩, .string ⟨#[]⟩, .int .i64 0, .int .i64 0, .int .i64 0, .int .i64 0, .slice none 0 0, .slice none 0 0, .slice none 0 0, .slice none 0 0, .int .i64 0] 43) = w0 := ⟨_, rfl⟩
  rw [hw0]
  have X := (Bx.new w 43 #[.int .u8 x.k, .string x.m, .string x.n, .int .i64 x.b, .int .i64 x.x, .int .i64 x.lo, .int .i64 x.hi, .slice x.ns.p x.ns.n x.ns.c, .slice x.fs.p x.fs.n x.fs.c, .slice x.rs.p x.rs.n x.rs.c, .slice x.ps.p x.ps.n x.ps.c, .int .i64 x.r]).on (bl_new _ (.cells #[.int .u8 0, .string ⟨#[]⟩, .string ⟨#[]⟩, .int .i64 0, .int .i64 0, .int .i64 0, .int .i64 0, .slice none 0 0, .slice none 0 0, .slice none 0 0, .slice none 0 0, .int .i64 0] 43))
  have Y := Bx.new (w.alloc (.cells #[.int .u8 x.k, .string x.m, .string x.n, .int .i64 x.b, .int .i64 x.x, .int .i64 x.lo, .int .i64 x.hi, .slice x.ns.p x.ns.n x.ns.c, .slice x.fs.p x.fs.n x.fs.c, .slice x.rs.p x.rs.n x.rs.c, .slice x.ps.p x.ps.n x.ps.c, .int .i64 x.r] 43)) 43 #[.int .u8 0, .string ⟨#[]⟩, .string ⟨#[]⟩, .int .i64 0, .int .i64 0, .int .i64 0, .int .i64 0, .slice none 0 0, .slice none 0 0, .slice none 0 0, .slice none 0 0, .int .i64 0]
  simp only [World.size_alloc] at Y
  rw [hw0, hW] at X Y
  have K : Bl w w0 := by rw [← hw0]; exact (bl_new _ _).on (bl_new _ _)
  have S : W + 2 ≤ w0.heap.size := by rw [← hw0]; simp; omega
  clear hw0
  refine (H0 _ K).mono ?_
  rintro e v0 ⟨u0, rfl, k0, r0⟩
  have X := X.on k0
  have Y := Y.on k0
  have r0 := r0.low S
  have S : W + 2 ≤ v0.heap.size := Nat.le_trans S k0.size
  have K := Bl.on K k0
  clear k0 H0
  have x7 := X.at 7
  have x8 := X.at 8
  simp only [List.getElem?_toArray, List.getElem?_cons_zero, List.getElem?_cons_succ] at x7 x8
  obtain ⟨x7, f7⟩ := x7
  obtain ⟨x8, f8⟩ := x8
  have X1 := X.cell 7 (.slice u0.p u0.n u0.c)
  have Y1 := Y.off1 (c := W) (by omega) 7 (.slice u0.p u0.n u0.c)
  simp only [List.setIfInBounds_toArray, List.set_cons_zero, List.set_cons_succ] at X1
  have K1 : Bl w (v0.setCell ⟨W, 7, none⟩ (.slice u0.p u0.n u0.c)) := K.setCell (by show w.heap.size ≤ W; omega) _
  have S1 : W + 2 ≤ (v0.setCell ⟨W, 7, none⟩ (.slice u0.p u0.n u0.c)).heap.size := by simpa using S
  have r0 := r0.far (b := W) (by omega) 7 (.slice u0.p u0.n u0.c)
  have HH := Lib.hid (And.intro X1 (And.intro Y1 (And.intro K1 (And.intro S1 r0))))
  clear X Y K S X1 Y1 K1 S1 r0
  go_wp2_with fail
  have HX := HH.out
  obtain ⟨w1, hw⟩ : ∃ w1, v0.setCell ⟨W, 7, none⟩ (.slice u0.p u0.n u0.c) = w1 := ⟨_, rfl⟩
  rw [hw] at HX ⊢
  obtain ⟨X, Y, K, S, r0⟩ := HX
  clear HH hw x7 f7 x8 f8
  refine (H1 _ K).mono ?_
  rintro e v1 ⟨u1, rfl, k1, r1⟩
  have X := X.on k1
  have Y := Y.on k1
  have r0 := r0.on k1
  have r1 := r1.low S
  have S : W + 2 ≤ v1.heap.size := Nat.le_trans S k1.size
  have K := Bl.on K k1
  clear k1 H1
  have x8 := X.at 8
  have x9 := X.at 9
  simp only [List.getElem?_toArray, List.getElem?_cons_zero, List.getElem?_cons_succ] at x8 x9
  obtain ⟨x8, f8⟩ := x8
  obtain ⟨x9, f9⟩ := x9
  have X1 := X.cell 8 (.slice u1.p u1.n u1.c)
  have Y1 := Y.off1 (c := W) (by omega) 8 (.slice u1.p u1.n u1.c)
  simp only [List.setIfInBounds_toArray, List.set_cons_zero, List.set_cons_succ] at X1
  have K1 : Bl w (v1.setCell ⟨W, 8, none⟩ (.slice u1.p u1.n u1.c)) := K.setCell (by show w.heap.size ≤ W; omega) _
  have S1 : W + 2 ≤ (v1.setCell ⟨W, 8, none⟩ (.slice u1.p u1.n u1.c)).heap.size := by simpa using S
  have r0 := r0.far (b := W) (by omega) 8 (.slice u1.p u1.n u1.c)
  have r1 := r1.far (b := W) (by omega) 8 (.slice u1.p u1.n u1.c)
  have HH := Lib.hid (And.intro X1 (And.intro Y1 (And.intro K1 (And.intro S1 (And.intro r0 r1)))))
  clear X Y K S X1 Y1 K1 S1 r0 r1
  go_wp2_with fail
  have HX := HH.out
  obtain ⟨w2, hw⟩ : ∃ w1, v1.setCell ⟨W, 8, none⟩ (.slice u1.p u1.n u1.c) = w1 := ⟨_, rfl⟩
  rw [hw] at HX ⊢
  obtain ⟨X, Y, K, S, r0, r1⟩ := HX
  clear HH hw x8 f8 x9 f9
  refine (H2 _ K).mono ?_
  rintro e v2 ⟨u2, rfl, k2, r2⟩
  have X := X.on k2
  have Y := Y.on k2
  have r0 := r0.on k2
  have r1 := r1.on k2
  have r2 := r2.low S
  have S : W + 2 ≤ v2.heap.size := Nat.le_trans S k2.size
  have K := Bl.on K k2
  clear k2 H2
  have x9 := X.at 9
  have x10 := X.at 10
  simp only [List.getElem?_toArray, List.getElem?_cons_zero, List.getElem?_cons_succ] at x9 x10
  obtain ⟨x9, f9⟩ := x9
  obtain ⟨x10, f10⟩ := x10
  have X1 := X.cell 9 (.slice u2.p u2.n u2.c)
  have Y1 := Y.off1 (c := W) (by omega) 9 (.slice u2.p u2.n u2.c)
  simp only [List.setIfInBounds_toArray, List.set_cons_zero, List.set_cons_succ] at X1
  have K1 : Bl w (v2.setCell ⟨W, 9, none⟩ (.slice u2.p u2.n u2.c)) := K.setCell (by show w.heap.size ≤ W; omega) _
  have S1 : W + 2 ≤ (v2.setCell ⟨W, 9, none⟩ (.slice u2.p u2.n u2.c)).heap.size := by simpa using S
  have r0 := r0.far (b := W) (by omega) 9 (.slice u2.p u2.n u2.c)
  have r1 := r1.far (b := W) (by omega) 9 (.slice u2.p u2.n u2.c)
  have r2 := r2.far (b := W) (by omega) 9 (.slice u2.p u2.n u2.c)
  have HH := Lib.hid (And.intro X1 (And.intro Y1 (And.intro K1 (And.intro S1 (And.intro r0 (And.intro r1 r2))))))
  clear X Y K S X1 Y1 K1 S1 r0 r1 r2
  go_wp2_with fail
  have HX := HH.out
  obtain ⟨w3, hw⟩ : ∃ w1, v2.setCell ⟨W, 9, none⟩ (.slice u2.p u2.n u2.c) = w1 := ⟨_, rfl⟩
  rw [hw] at HX ⊢
  obtain ⟨X, Y, K, S, r0, r1, r2⟩ := HX
  clear HH hw x9 f9 x10 f10
  refine (H3 _ K).mono ?_
  rintro e v3 ⟨u3, rfl, k3, r3⟩
  have X := X.on k3
  have Y := Y.on k3
  have r0 := r0.on k3
  have r1 := r1.on k3
  have r2 := r2.on k3
  have r3 := r3.low S
  have S : W + 2 ≤ v3.heap.size := Nat.le_trans S k3.size
  have K := Bl.on K k3
  clear k3 H3
  have x10 := X.at 10
  simp only [List.getElem?_toArray, List.getElem?_cons_zero, List.getElem?_cons_succ] at x10
  obtain ⟨x10, f10⟩ := x10
  have X1 := X.cell 10 (.slice u3.p u3.n u3.c)
  have Y1 := Y.off1 (c := W) (by omega) 10 (.slice u3.p u3.n u3.c)
  simp only [List.setIfInBounds_toArray, List.set_cons_zero, List.set_cons_succ] at X1
  have K1 : Bl w (v3.setCell ⟨W, 10, none⟩ (.slice u3.p u3.n u3.c)) := K.setCell (by show w.heap.size ≤ W; omega) _
  have S1 : W + 2 ≤ (v3.setCell ⟨W, 10, none⟩ (.slice u3.p u3.n u3.c)).heap.size := by simpa using S
  have r0 := r0.far (b := W) (by omega) 10 (.slice u3.p u3.n u3.c)
  have r1 := r1.far (b := W) (by omega) 10 (.slice u3.p u3.n u3.c)
  have r2 := r2.far (b := W) (by omega) 10 (.slice u3.p u3.n u3.c)
  have r3 := r3.far (b := W) (by omega) 10 (.slice u3.p u3.n u3.c)
  have HH := Lib.hid (And.intro X1 (And.intro Y1 (And.intro K1 (And.intro S1 (And.intro r0 (And.intro r1 (And.intro r2 r3)))))))
  clear X Y K S X1 Y1 K1 S1 r0 r1 r2 r3
  have X := HH.out.1
  have Y := HH.out.2.1
  obtain ⟨y, hy⟩ : ∃ y : TyV, y = ⟨x.k, x.m, x.n, x.b, x.x, x.lo, x.hi, u0, u1, u2, u3, x.r⟩ := ⟨_, rfl⟩
  have hya : #[.int .u8 x.k, .string x.m, .string x.n, .int .i64 x.b, .int .i64 x.x, .int .i64 x.lo, .int .i64 x.hi, .slice u0.p u0.n u0.c, .slice u1.p u1.n u1.c, .slice u2.p u2.n u2.c, .slice u3.p u3.n u3.c, .int .i64 x.r] = y.arr := by subst hy; rfl
  rw [hya] at X
  go_wp2_with (first | (refine wpList_load_row rfl 43 _ rfl W rfl 43 y.arr (0, 0) _ X Try.underlying43 rfl infoTy ?_) | (refine wpList_store_row rfl 43 _ _ rfl (W + 1) y.arr rfl rfl 43 _ Y infoTy rfl y.one ?_))
  refine bodyPost_ret (v := y.val) ?_ rfl ?_
  · exact results_cell_row Try.results32 _ _ _ 43 y.arr (0, 0) _ rfl (Y.set _) Try.underlying43 rfl infoTy
  · obtain ⟨_, _, K, S, r0, r1, r2, r3⟩ := HH.out
    have hW := HWW.out
    subst hy
    exact ⟨_, rfl, bl_row K (by omega) _, HS.out, (r0.farR (by omega) _).low (by omega), (r1.farR (by omega) _).low (by omega), (r2.farR (by omega) _).low (by omega), (r3.farR (by omega) _).low (by omega)⟩
end Go.Proofs.Ytepfknfadpkigaa
