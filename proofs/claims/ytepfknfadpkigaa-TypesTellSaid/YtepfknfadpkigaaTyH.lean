/- Package types: ranges. -/
import Derived.Test.YtepfknfadpkigaaTyG
import Derived.Maps.Own
import Derived.Maps.OwnSet
import Derived.Maps.OwnOps
import Derived.Maps.Views
import Derived.Maps.Keyed
namespace Go.Proofs.Ytepfknfadpkigaa
open Go.RowKit
set_option maxHeartbeats 1000000
set_option maxRecDepth 100000
set_option linter.unusedVariables false
set_option linter.unusedSimpArgs false

open Go.Maps Go.WideMaps
/-- The ranges of kinds. -/
def rngP (k : Int) : Option (Int × Int) := if k = 1 then some (-32768, 32767) else if k = 2 then some (0, 65535) else if k = 3 then some (0, 1) else if k = 4 then some (0, 255) else if k = 5 then some (-32768, 65535) else none
def fvR (v : Value) : Option (DataW Value × List MemPlace) := some (.held v, [])
def fvrD : List (Int × Value) → DataW Value
  | [] => .map []
  | p :: r => (fvrD r).put (.int .u8 p.1) (.held p.2)
theorem fvrD_map : ∀ l, IsMap (fvrD l)
  | [] => ⟨[], rfl⟩
  | p :: r => by
    obtain ⟨es, e⟩ := fvrD_map r
    show IsMap ((fvrD r).put _ _)
    rw [e]
    exact ⟨_, rfl⟩
theorem fvrD_at (x : Int) (z : DataW Value) : ∀ l : List (Int × Value), (fvrD l).atKey (.int .u8 x) z = ((l.lookup x).map DataW.held).getD z
  | [] => rfl
  | (y, k) :: r => by
    have h1 := fvrD_at x z r
    by_cases h : x = y
    · subst h
      show ((fvrD r).put (.int .u8 x) _).atKey _ _ = _
      rw [atKey_put_same (fvrD_map r) (show WideAt.IsKeyLit (.int .u8 x) from trivial)]
      simp [List.lookup]
    · have hne : (Lit.int .u8 x) ≠ .int .u8 y := fun e => h (by injection e)
      have hb : (x == y) = false := beq_eq_false_iff_ne.2 h
      show ((fvrD r).put (.int .u8 y) _).atKey _ _ = _
      rw [atKey_put_other hne, h1]
      simp [List.lookup, hb]
theorem lawU : Keyed Try.prog 5 := int_keyed Try.underlying5
theorem zeroA2 (w : World) : (zeroValue 73).run Try.prog w = .ok (.agg #[.int .i64 (0), .int .i64 (0)]) w := by kernel_rfl
theorem key_u8 (k : Int) (h0 : 0 ≤ k) (h1 : k ≤ 255) : keyOf Try.prog 5 (.int .u8 k) = some (.int .u8 k) :=
  keyOf_int_mk Try.underlying5 (by simp [Lit.wf, IntKind.min, IntKind.max, IntKind.bits, IntKind.signed]; omega)
/-- A map under way, on top of W. -/
structure TfR (W w : World) (l : List (Int × Value)) (n : Nat) : Prop where
  own : w.ownsMap Try.prog 5 fvR W.heap.size n (fvrD l)
  f : Below W.heap.size W w
theorem TfR.new (W : World) : TfR W (W.alloc (.map #[] 0)) [] 0 := ⟨World.ownsMap_made (H := Value) W Try.prog 5 fvR, (Below.refl _ _).alloc (Nat.le_refl _) _⟩
theorem wpList_insert_r {W w : World} {ops : Array Oper} {rest : List Oper} {o : Oper} {a : Act} {Q : Exit → Act → World → Prop} {l : List (Int × Value)} {n : Nat}
    (hT : TfR W w l n) (hg : o.guard = none) (m x v : Operand) (hop : o.op = Op.insert 75 m x v)
    (hm : a.eval m = .map (some W.heap.size)) (hn : n < 100) (key : Int) (h0 : 0 ≤ key) (h1 : key ≤ 255) (val : Value) (hx : a.eval x = .int .u8 key) (hv : a.eval v = val)
    (hK : ∀ w', TfR W w' ((key, val) :: l) (n + 1) → wpList Try.prog ops Q rest (a.put o.dst undef) w') :
    wpList Try.prog ops Q (o :: rest) a w := by
  refine wpList_plain hg fun K' hK' => ?_
  obtain ⟨w', hrun, r1, r2⟩ := hT.own.update lawU Try.underlying75 (by unfold maxLen; omega) (key_u8 key h0 h1) (show fvR val = some (.held val, []) from rfl)
  unfold Oper.wp
  simp [execOp, hop, hm, hx, hv, hrun, Result.andThen]
  refine hK' _ _ (hK w' ⟨r1, hT.f.grown r2 hT.f.size (fun k hk => by cases hk; exact Nat.le_refl _)⟩)
def rngL : List (Int × Value) := [(5, .agg #[.int .i64 (-32768), .int .i64 (65535)]), (4, .agg #[.int .i64 (0), .int .i64 (255)]), (3, .agg #[.int .i64 (0), .int .i64 (1)]), (2, .agg #[.int .i64 (0), .int .i64 (65535)]), (1, .agg #[.int .i64 (-32768), .int .i64 (32767)])]
theorem rngL_at (k : Int) : rngL.lookup k = (rngP k).map fun p => .agg #[.int .i64 p.1, .int .i64 p.2] := by
  unfold rngP
  by_cases h1 : k = 1
  · subst h1; rfl
  rw [if_neg h1]
  have e1 : (k == 1) = false := beq_eq_false_iff_ne.2 h1
  by_cases h2 : k = 2
  · subst h2; rfl
  rw [if_neg h2]
  have e2 : (k == 2) = false := beq_eq_false_iff_ne.2 h2
  by_cases h3 : k = 3
  · subst h3; rfl
  rw [if_neg h3]
  have e3 : (k == 3) = false := beq_eq_false_iff_ne.2 h3
  by_cases h4 : k = 4
  · subst h4; rfl
  rw [if_neg h4]
  have e4 : (k == 4) = false := beq_eq_false_iff_ne.2 h4
  by_cases h5 : k = 5
  · subst h5; rfl
  rw [if_neg h5]
  have e5 : (k == 5) = false := beq_eq_false_iff_ne.2 h5
  simp [rngL, List.lookup, e1, e2, e3, e4, e5]
/-- A map that has the ranges. -/
def MapR (w : World) (b : Nat) : Prop := ∃ n, w.ownsMap Try.prog 5 fvR b n (fvrD rngL)
theorem MapR.look {w : World} {b : Nat} (h : MapR w b) (k : Int) (h0 : 0 ≤ k) (h1 : k ≤ 255) :
    (Instr.lookup 75 (.map (some b)) (.int .u8 k) true).run Try.prog w = .ok (.tuple #[.agg #[.int .i64 ((rngP k).getD (0, 0)).1, .int .i64 ((rngP k).getD (0, 0)).2], .bool (rngP k).isSome]) w := by
  obtain ⟨n, es, cl, hb, F, _, hD⟩ := h
  have hat := fvrD_at k
  have hl := rngL_at k
  rcases Maps.fit_look true lawU Try.underlying75 (zeroA2 w) hb F (key_u8 k h0 h1) with ⟨hrun, _, h3⟩ | ⟨e0, y, _, _, hrun, hR, h3, _⟩
  · have h4 := h3 (.held (.bool true))
    rw [← hD, hat, hl] at h4
    cases hk : rngP k with
    | none => rw [hrun]; rfl
    | some p =>
      rw [hk] at h4
      simp at h4
  · have h4 := h3 (.held (.bool true))
    have h5 := h3 (.held (.bool false))
    rw [← hD, hat, hl] at h4 h5
    cases hk : rngP k with
    | none =>
      rw [hk] at h4 h5
      simp at h4 h5
      rw [← h4] at h5
      cases h5
    | some p =>
      rw [hk] at h4
      simp only [Option.map_some, Option.getD_some] at h4
      unfold fvR at hR
      simp only [Option.some.injEq] at hR
      rw [← hR] at h4
      simp only [DataW.held.injEq] at h4
      rw [hrun, ← h4]; rfl
theorem MapR.on {w w' : World} {b : Nat} (h : MapR w b) (k : Bl w w') : MapR w' b := by
  obtain ⟨n, es, cl, hb, h2⟩ := h
  exact ⟨n, es, cl, (k.block b (Array.getElem?_eq_some_iff.1 hb).1).trans hb, h2⟩
theorem MapR.ne {w : World} {b c : Nat} {t : TypeId} {cs : Array Value} (h : MapR w b) (X : Bx w c t cs) : b ≠ c := by
  obtain ⟨n, es, cl, hb, h2⟩ := h
  intro e
  subst e
  unfold Bx at X
  rw [hb] at X
  cases X
theorem MapR.off {w : World} {b c : Nat} (h : MapR w b) (hne : b ≠ c) (j : Nat) (v : Value) : MapR (w.setCell ⟨c, j, none⟩ v) b := by
  obtain ⟨n, es, cl, hb, h2⟩ := h
  exact ⟨n, es, cl, by rw [← hb]; simp [World.setCell, Array.getElem?_modify, Ne.symm hne], h2⟩
theorem ranges_any (w : World) : Calls Try.prog 30 #[] w fun e w' => ∃ b, e = .returned (.map (some b)) ∧ Bl w w' ∧ MapR w' b := by
  have hmm := @run_makeMap Try.prog
  have t0 := TfR.new w
  go_enter Try.func30, Try.ntmps30
  go_wp2_with (refine wpList_insert_r t0 rfl _ _ _ rfl rfl (by omega) 1 (by omega) (by omega) (.agg #[.int .i64 (-32768), .int .i64 (32767)]) rfl rfl ?_)
  intro w1 t1
  clear t0
  go_wp2_with (refine wpList_insert_r t1 rfl _ _ _ rfl rfl (by omega) 2 (by omega) (by omega) (.agg #[.int .i64 (0), .int .i64 (65535)]) rfl rfl ?_)
  intro w2 t2
  clear t1
  go_wp2_with (refine wpList_insert_r t2 rfl _ _ _ rfl rfl (by omega) 3 (by omega) (by omega) (.agg #[.int .i64 (0), .int .i64 (1)]) rfl rfl ?_)
  intro w3 t3
  clear t2
  go_wp2_with (refine wpList_insert_r t3 rfl _ _ _ rfl rfl (by omega) 4 (by omega) (by omega) (.agg #[.int .i64 (0), .int .i64 (255)]) rfl rfl ?_)
  intro w4 t4
  clear t3
  go_wp2_with (refine wpList_insert_r t4 rfl _ _ _ rfl rfl (by omega) 5 (by omega) (by omega) (.agg #[.int .i64 (-32768), .int .i64 (65535)]) rfl rfl ?_)
  intro w5 t5
  clear t4
  have H := Lib.hid t5
  clear t5
  go_wp2_with fail
  go_ret
  exact ⟨_, rfl, H.out.f, 5, H.out.own⟩
theorem AnyL.stronger {P : Program} {ops : Array Oper} {Q : Exit → Act → World → Prop} {md : Region.Mode} {S S' : World → Prop} {L : Nat} (hS : ∀ w, S' w → S w) : ∀ (n : Nat) (listed : Array Bool) (a : Act) (w : World), AnyL P md ops Q S' L n listed a w → AnyL P md ops Q S L n listed a w
  | 0, _, _, _, h => h
  | n + 1, _, _, _, h => ⟨h.1, fun i hi => wpOp_mono (fun a' w' h' => ⟨fun hL => hS _ (h'.1 hL), AnyL.stronger hS n _ _ _ h'.2⟩) (h.2 i hi)⟩
def rangeV (x y : TyV) : Int × Int × Bool := if ((rngP y.k).isSome || y.k == 8) = true then (if (x.k == 9 || x.k == 8) = true then (x.lo, x.hi, true) else (((rngP y.k).getD (0, 0)).1, ((rngP y.k).getD (0, 0)).2, true)) else (0, 0, false)
def rangeP (L : List TyV) (i : Int) : Int × Int × Bool := rangeV (atP L i) (atP L (baseP L i))
theorem range_any {w : World} {t g cap : Nat} {L : List TyV} (h : Tab w t g cap L) (i : Int) (hk : 0 ≤ (atP L (baseP L i)).k ∧ (atP L (baseP L i)).k ≤ 255) : Calls Try.prog 9 #[.pointer (some ⟨t, 0, none⟩), .int .i64 i] w fun e w' => e = .returned (.tuple #[.int .i64 (rangeP L i).1, .int .i64 (rangeP L i).2.1, .bool (rangeP L i).2.2]) ∧ Bl w w' := by
  have HA := fun w1 (k : Bl w w1) => at_any (h.on k) i
  have HB := fun w1 (k : Bl w w1) => base_any (h.on k) i
  have HY := fun w1 (k : Bl w w1) => at_any (h.on k) (baseP L i)
  unfold rangeP
  generalize atP L i = x at *
  generalize baseP L i = b at *
  generalize atP L b = y at *
  obtain ⟨r, hr⟩ : ∃ r, rangeV x y = r := ⟨_, rfl⟩
  rw [hr]
  obtain ⟨r1, r2, r3⟩ := r
  have HRV := Lib.hid hr
  clear h hr
  simp only
  go_enter Try.func9, Try.ntmps9
  go_wp2_with fail
  refine (HA _ (Below.refl _ _)).mono ?_
  rintro e w1 ⟨rfl, k1⟩
  go_wp2_with fail
  refine (HB _ k1).mono ?_
  rintro e w2 ⟨rfl, k2⟩
  have k2 := k1.on k2
  clear k1
  go_wp2_with fail
  refine (HY _ k2).mono ?_
  rintro e w3 ⟨rfl, k3⟩
  have KK := Lib.hid (k2.on k3)
  clear k2 k3 HA HB HY
  go_upto_region 2 with (first | (refine wpList_store_row rfl 43 _ _ rfl w3.heap.size #[.int .u8 x.k, .string x.m, .string x.n, .int .i64 x.b, .int .i64 x.x, .int .i64 x.lo, .int .i64 x.hi, .slice x.ns.p x.ns.n x.ns.c, .slice x.fs.p x.fs.n x.fs.c, .slice x.rs.p x.rs.n x.rs.c, .slice x.ps.p x.ps.n x.ps.c, .int .i64 x.r] rfl rfl 43 _ ((heap_alloc_old _ _ (by simp)).trans (heap_alloc_new _ _)) infoTy rfl x.one ?_; rw [setRow_under _ _ _ _ (by simp), World.setRow_alloc_new]) | (refine wpList_store_row rfl 43 _ _ rfl (w3.heap.size + 1) #[.int .u8 y.k, .string y.m, .string y.n, .int .i64 y.b, .int .i64 y.x, .int .i64 y.lo, .int .i64 y.hi, .slice y.ns.p y.ns.n y.ns.c, .slice y.fs.p y.fs.n y.fs.c, .slice y.rs.p y.rs.n y.rs.c, .slice y.ps.p y.ps.n y.ps.c, .int .i64 y.r] rfl rfl 43 _ (heap_alloc_new _ _) infoTy rfl y.one ?_; rw [World.setRow_alloc_new]))
  obtain ⟨w5, hw5⟩ : ∃ w5, (w3.alloc (.cells #[.int .u8 x.k, .string x.m, .string x.n, .int .i64 x.b, .int .i64 x.x, .int .i64 x.lo, .int .i64 x.hi, .slice x.ns.p x.ns.n x.ns.c, .slice x.fs.p x.fs.n x.fs.c, .slice x.rs.p x.rs.n x.rs.c, .slice x.ps.p x.ps.n x.ps.c, .int .i64 x.r] 43)).alloc (.cells #[.int .u8 y.k, .string y.m, .string y.n, .int .i64 y.b, .int .i64 y.x, .int .i64 y.lo, .int .i64 y.hi, .slice y.ns.p y.ns.n y.ns.c, .slice y.fs.p y.fs.n y.fs.c, .slice y.rs.p y.rs.n y.rs.c, .slice y.ps.p y.ps.n y.ps.c, .int .i64 y.r] 43) = w5 := ⟨_, rfl⟩
  rw [hw5]
  have X5 : Bx w5 w3.heap.size 43 #[.int .u8 x.k, .string x.m, .string x.n, .int .i64 x.b, .int .i64 x.x, .int .i64 x.lo, .int .i64 x.hi, .slice x.ns.p x.ns.n x.ns.c, .slice x.fs.p x.fs.n x.fs.c, .slice x.rs.p x.rs.n x.rs.c, .slice x.ps.p x.ps.n x.ps.c, .int .i64 x.r] := by rw [← hw5]; exact (Bx.new _ _ _).on (bl_new _ _)
  have Y5 : Bx w5 (w3.heap.size + 1) 43 #[.int .u8 y.k, .string y.m, .string y.n, .int .i64 y.b, .int .i64 y.x, .int .i64 y.lo, .int .i64 y.hi, .slice y.ns.p y.ns.n y.ns.c, .slice y.fs.p y.fs.n y.fs.c, .slice y.rs.p y.rs.n y.rs.c, .slice y.ps.p y.ps.n y.ps.c, .int .i64 y.r] := by rw [← hw5]; have := Bx.new (w3.alloc (.cells #[.int .u8 x.k, .string x.m, .string x.n, .int .i64 x.b, .int .i64 x.x, .int .i64 x.lo, .int .i64 x.hi, .slice x.ns.p x.ns.n x.ns.c, .slice x.fs.p x.fs.n x.fs.c, .slice x.rs.p x.rs.n x.rs.c, .slice x.ps.p x.ps.n x.ps.c, .int .i64 x.r] 43)) 43 #[.int .u8 y.k, .string y.m, .string y.n, .int .i64 y.b, .int .i64 y.x, .int .i64 y.lo, .int .i64 y.hi, .slice y.ns.p y.ns.n y.ns.c, .slice y.fs.p y.fs.n y.fs.c, .slice y.rs.p y.rs.n y.rs.c, .slice y.ps.p y.ps.n y.ps.c, .int .i64 y.r]; simpa using this
  have K5 : Bl w w5 := by rw [← hw5]; exact (KK.out.on (bl_new _ _)).on (bl_new _ _)
  clear hw5 KK
  go_cut [6, 9] from 10 (fun s6 s9 wx => ∃ q : Nat, s9 = .pointer (some ⟨q, 0, none⟩) ∧ s6 = .bool (rngP y.k).isSome ∧ Bx wx w3.heap.size 43 #[.int .u8 x.k, .string x.m, .string x.n, .int .i64 x.b, .int .i64 x.x, .int .i64 x.lo, .int .i64 x.hi, .slice x.ns.p x.ns.n x.ns.c, .slice x.fs.p x.fs.n x.fs.c, .slice x.rs.p x.rs.n x.rs.c, .slice x.ps.p x.ps.n x.ps.c, .int .i64 x.r] ∧ Bx wx (w3.heap.size + 1) 43 #[.int .u8 y.k, .string y.m, .string y.n, .int .i64 y.b, .int .i64 y.x, .int .i64 y.lo, .int .i64 y.hi, .slice y.ns.p y.ns.n y.ns.c, .slice y.fs.p y.fs.n y.fs.c, .slice y.rs.p y.rs.n y.rs.c, .slice y.ps.p y.ps.n y.ps.c, .int .i64 y.r] ∧ Bx wx q 73 #[.int .i64 ((rngP y.k).getD (0, 0)).1, .int .i64 ((rngP y.k).getD (0, 0)).2] ∧ Bl w wx)
  case first =>
    have HR := ranges_any
    have HSS : ∀ w', Bl w5 w' → w'.cell? ⟨w3.heap.size + 1, 0, none⟩ = some (.int .u8 y.k) := fun w' k => by have := (Y5.on k).at 0; simpa using this.1
    refine region_l 9 (S := fun w' => w'.cell? ⟨w3.heap.size + 1, 0, none⟩ = some (.int .u8 y.k)) (by kernel_rfl) ?_ (fun hHeld => ?_)
    · exact HSS _ (bl_drew w5)
    refine anyL_take (k := 12) (i := 1) (v := ?_) rfl (by kernel_rfl) (by kernel_rfl) (by kernel_rfl) (by kernel_rfl) (fun _ _ _ h => h) (Or.inl ⟨by rfl, ?_⟩) (by assumption) ?_
    rotate_left
    · intro w hSw; (try dsimp only at hSw); go_simp; try with_reducible rfl
    simp only [Act.put, List.setIfInBounds_toArray, List.set_cons_zero, List.set_cons_succ, List.getElem_toArray, List.getElem_cons_zero, List.getElem_cons_succ]
    refine anyL_take (k := 12) (i := 2) (v := ?_) rfl (by kernel_rfl) (by kernel_rfl) (by kernel_rfl) (by kernel_rfl) (fun _ _ _ h => h) (Or.inl ⟨by rfl, ?_⟩) (by assumption) ?_
    rotate_left
    · intro w hSw; (try dsimp only at hSw); go_simp; try with_reducible rfl
    simp only [Act.put, List.setIfInBounds_toArray, List.set_cons_zero, List.set_cons_succ, List.getElem_toArray, List.getElem_cons_zero, List.getElem_cons_succ]
    refine anyL_ready (rs := [0, 7]) (by kernel_rfl) (by simp) ?_
    refine AllL.cons rfl (fun K hK => ?_) (AllL.cons rfl (fun K hK => ?_) AllL.nil)
    · go_simp
      refine (HR _).mono ?_
      rintro e wb ⟨bm, rfl, kb, hm⟩
      have K6 : Bl w5 wb := (bl_drew w5).on kb
      have H9 := HSS wb K6
      have HM := Lib.hid (fun w' (k : Bl wb w') => (hm.on k).look y.k hk.1 hk.2)
      clear hm kb HR
      go_wp2_with fail
      refine hK.out _ _ (H9) (fun hHeld => ?_)
      clear hK K
      try simp only [Act.put, List.setIfInBounds_toArray, List.set_cons_zero, List.set_cons_succ, List.getElem_toArray, List.getElem_cons_zero, List.getElem_cons_succ]
      refine AnyL.stronger (S' := fun w' => w'.cell? ⟨w3.heap.size + 1, 0, none⟩ = some (.int .u8 y.k) ∧ (Instr.lookup 75 (.map (some bm)) (.int .u8 y.k) true).run Try.prog w' = .ok (.tuple #[.agg #[.int .i64 ((rngP y.k).getD (0, 0)).1, .int .i64 ((rngP y.k).getD (0, 0)).2], .bool (rngP y.k).isSome]) w') (fun w h => h.1) _ _ _ _ ?_
      have hHeld2 : wb.cell? ⟨w3.heap.size + 1, 0, none⟩ = some (.int .u8 y.k) ∧ (Instr.lookup 75 (.map (some bm)) (.int .u8 y.k) true).run Try.prog wb = .ok (.tuple #[.agg #[.int .i64 ((rngP y.k).getD (0, 0)).1, .int .i64 ((rngP y.k).getD (0, 0)).2], .bool (rngP y.k).isSome]) wb := ⟨H9, HM.out wb (Below.refl _ _)⟩
      refine anyL_take (k := 12) (i := 3) (v := ?_) rfl (by kernel_rfl) (by kernel_rfl) (by kernel_rfl) (by kernel_rfl) (fun _ _ _ h => h) (Or.inl ⟨by rfl, ?_⟩) (by assumption) ?_
      rotate_left
      · intro w hSw; (try dsimp only at hSw); obtain ⟨_, hlk⟩ := hSw; go_simp; try with_reducible rfl
      simp only [Act.put, List.setIfInBounds_toArray, List.set_cons_zero, List.set_cons_succ, List.getElem_toArray, List.getElem_cons_zero, List.getElem_cons_succ]
      refine anyL_take (k := 12) (i := 4) (v := ?_) rfl (by kernel_rfl) (by kernel_rfl) (by kernel_rfl) (by kernel_rfl) (fun _ _ _ h => h) (Or.inl ⟨by rfl, ?_⟩) (by assumption) ?_
      rotate_left
      · intro w hSw; (try dsimp only at hSw); go_simp; try with_reducible rfl
      simp only [Act.put, List.setIfInBounds_toArray, List.set_cons_zero, List.set_cons_succ, List.getElem_toArray, List.getElem_cons_zero, List.getElem_cons_succ]
      refine anyL_take (k := 12) (i := 5) (v := ?_) rfl (by kernel_rfl) (by kernel_rfl) (by kernel_rfl) (by kernel_rfl) (fun _ _ _ h => h) (Or.inl ⟨by rfl, ?_⟩) (by assumption) ?_
      rotate_left
      · intro w hSw; (try dsimp only at hSw); go_simp; try with_reducible rfl
      simp only [Act.put, List.setIfInBounds_toArray, List.set_cons_zero, List.set_cons_succ, List.getElem_toArray, List.getElem_cons_zero, List.getElem_cons_succ]
      refine anyL_take (k := 12) (i := 6) (v := ?_) rfl (by kernel_rfl) (by kernel_rfl) (by kernel_rfl) (by kernel_rfl) (fun _ _ _ h => h) (Or.inl ⟨by rfl, ?_⟩) (by assumption) ?_
      rotate_left
      · intro w hSw; (try dsimp only at hSw); go_simp; try with_reducible rfl
      simp only [Act.put, List.setIfInBounds_toArray, List.set_cons_zero, List.set_cons_succ, List.getElem_toArray, List.getElem_cons_zero, List.getElem_cons_succ]
      refine anyL_ready (rs := [7]) (by kernel_rfl) (by simp) ?_
      refine AllL.cons rfl (fun K hK => ?_) ?_
      rotate_left
      · exact AllL.nil
      go_simp
      have H10 := HSS (wb.alloc (.cells #[.int .i64 0, .int .i64 0] 73)) (K6.on (bl_new _ _))
      have H11 := HM.out _ (bl_new wb (.cells #[.int .i64 0, .int .i64 0] 73))
      refine hK.out _ _ (⟨H10, H11⟩) (fun hHeld => ?_)
      clear hK K
      try simp only [Act.put, List.setIfInBounds_toArray, List.set_cons_zero, List.set_cons_succ, List.getElem_toArray, List.getElem_cons_zero, List.getElem_cons_succ]
      refine anyL_ready (rs := [8]) (by kernel_rfl) (by simp) ?_
      refine AllL.cons rfl (fun K hK => ?_) ?_
      rotate_left
      · exact AllL.nil
      go_simp
      have H12 := HSS (wb.alloc (.cells #[.int .i64 ((rngP y.k).getD (0, 0)).1, .int .i64 ((rngP y.k).getD (0, 0)).2] 73)) (K6.on (bl_new _ _))
      have H13 := HM.out _ (bl_new wb (.cells #[.int .i64 ((rngP y.k).getD (0, 0)).1, .int .i64 ((rngP y.k).getD (0, 0)).2] 73))
      refine hK.out _ _ (⟨H12, H13⟩) (fun hHeld => ?_)
      clear hK K
      try simp only [Act.put, List.setIfInBounds_toArray, List.set_cons_zero, List.set_cons_succ, List.getElem_toArray, List.getElem_cons_zero, List.getElem_cons_succ]
      refine anyL_ready (rs := [9]) (by kernel_rfl) (by simp) ?_
      refine AllL.last rfl (by kernel_rfl) (fun K hK => ?_) ?_
      rotate_left
      · exact AllL.nil
      go_simp
      refine hK.out _ _ ?_
      clear hK K
      try simp only [Act.put, List.setIfInBounds_toArray, List.set_cons_zero, List.set_cons_succ, List.getElem_toArray, List.getElem_cons_zero, List.getElem_cons_succ]
      refine anyL_done (by kernel_rfl) ?_ _
      have HF := Lib.hid (And.intro ((X5.on K6).on (bl_new wb (.cells #[.int .i64 ((rngP y.k).getD (0, 0)).1, .int .i64 ((rngP y.k).getD (0, 0)).2] 73))) (And.intro ((Y5.on K6).on (bl_new wb (.cells #[.int .i64 ((rngP y.k).getD (0, 0)).1, .int .i64 ((rngP y.k).getD (0, 0)).2] 73))) (And.intro (Bx.new wb 73 #[.int .i64 ((rngP y.k).getD (0, 0)).1, .int .i64 ((rngP y.k).getD (0, 0)).2]) ((K5.on K6).on (bl_new wb (.cells #[.int .i64 ((rngP y.k).getD (0, 0)).1, .int .i64 ((rngP y.k).getD (0, 0)).2] 73))))))
      clear H9 H10 H11 H12 H13 HM HSS X5 Y5 K5 K6 hHeld hHeld2
      go_wp2_with fail
      go_meet
      case rel => exact ⟨_, rfl, rfl, HF.out.1, HF.out.2.1, HF.out.2.2.1, HF.out.2.2.2⟩
    · go_simp
      have H7 := HSS (w5.drew.alloc (.cells #[.int .i64 0, .int .i64 0] 73)) ((bl_drew w5).on (bl_new _ _))
      refine hK.out _ _ (H7) (fun hHeld => ?_)
      clear hK K
      try simp only [Act.put, List.setIfInBounds_toArray, List.set_cons_zero, List.set_cons_succ, List.getElem_toArray, List.getElem_cons_zero, List.getElem_cons_succ]
      refine anyL_ready (rs := [0]) (by kernel_rfl) (by simp) ?_
      refine AllL.cons rfl (fun K hK => ?_) ?_
      rotate_left
      · exact AllL.nil
      go_simp
      refine (HR _).mono ?_
      rintro e wb ⟨bm, rfl, kb, hm⟩
      have K6 : Bl w5 wb := ((bl_drew w5).on (bl_new w5.drew (.cells #[.int .i64 0, .int .i64 0] 73))).on kb
      have H9 := HSS wb K6
      have BB := (Bx.new w5.drew 73 #[.int .i64 0, .int .i64 0]).on kb
      have hws : w5.drew.heap.size = w5.heap.size := rfl
      rw [hws] at BB
      obtain ⟨b0, f0⟩ := BB.at 0
      obtain ⟨b1, f1⟩ := BB.at 1
      simp only [List.getElem?_toArray, List.getElem?_cons_zero, List.getElem?_cons_succ] at b0 b1
      have HM := Lib.hid hm
      clear hm kb HR
      go_wp2_with fail
      refine hK.out _ _ (H9) (fun hHeld => ?_)
      clear hK K
      try simp only [Act.put, List.setIfInBounds_toArray, List.set_cons_zero, List.set_cons_succ, List.getElem_toArray, List.getElem_cons_zero, List.getElem_cons_succ]
      refine AnyL.stronger (S' := fun w' => w'.cell? ⟨w3.heap.size + 1, 0, none⟩ = some (.int .u8 y.k) ∧ (Instr.lookup 75 (.map (some bm)) (.int .u8 y.k) true).run Try.prog w' = .ok (.tuple #[.agg #[.int .i64 ((rngP y.k).getD (0, 0)).1, .int .i64 ((rngP y.k).getD (0, 0)).2], .bool (rngP y.k).isSome]) w') (fun w h => h.1) _ _ _ _ ?_
      have hHeld2 : wb.cell? ⟨w3.heap.size + 1, 0, none⟩ = some (.int .u8 y.k) ∧ (Instr.lookup 75 (.map (some bm)) (.int .u8 y.k) true).run Try.prog wb = .ok (.tuple #[.agg #[.int .i64 ((rngP y.k).getD (0, 0)).1, .int .i64 ((rngP y.k).getD (0, 0)).2], .bool (rngP y.k).isSome]) wb := ⟨H9, HM.out.look y.k hk.1 hk.2⟩
      refine anyL_take (k := 12) (i := 3) (v := ?_) rfl (by kernel_rfl) (by kernel_rfl) (by kernel_rfl) (by kernel_rfl) (fun _ _ _ h => h) (Or.inl ⟨by rfl, ?_⟩) (by assumption) ?_
      rotate_left
      · intro w hSw; (try dsimp only at hSw); obtain ⟨_, hlk⟩ := hSw; go_simp; try with_reducible rfl
      simp only [Act.put, List.setIfInBounds_toArray, List.set_cons_zero, List.set_cons_succ, List.getElem_toArray, List.getElem_cons_zero, List.getElem_cons_succ]
      refine anyL_take (k := 12) (i := 4) (v := ?_) rfl (by kernel_rfl) (by kernel_rfl) (by kernel_rfl) (by kernel_rfl) (fun _ _ _ h => h) (Or.inl ⟨by rfl, ?_⟩) (by assumption) ?_
      rotate_left
      · intro w hSw; (try dsimp only at hSw); go_simp; try with_reducible rfl
      simp only [Act.put, List.setIfInBounds_toArray, List.set_cons_zero, List.set_cons_succ, List.getElem_toArray, List.getElem_cons_zero, List.getElem_cons_succ]
      refine anyL_take (k := 12) (i := 5) (v := ?_) rfl (by kernel_rfl) (by kernel_rfl) (by kernel_rfl) (by kernel_rfl) (fun _ _ _ h => h) (Or.inl ⟨by rfl, ?_⟩) (by assumption) ?_
      rotate_left
      · intro w hSw; (try dsimp only at hSw); go_simp; try with_reducible rfl
      simp only [Act.put, List.setIfInBounds_toArray, List.set_cons_zero, List.set_cons_succ, List.getElem_toArray, List.getElem_cons_zero, List.getElem_cons_succ]
      refine anyL_take (k := 12) (i := 6) (v := ?_) rfl (by kernel_rfl) (by kernel_rfl) (by kernel_rfl) (by kernel_rfl) (fun _ _ _ h => h) (Or.inl ⟨by rfl, ?_⟩) (by assumption) ?_
      rotate_left
      · intro w hSw; (try dsimp only at hSw); go_simp; try with_reducible rfl
      simp only [Act.put, List.setIfInBounds_toArray, List.set_cons_zero, List.set_cons_succ, List.getElem_toArray, List.getElem_cons_zero, List.getElem_cons_succ]
      refine anyL_ready (rs := [8]) (by kernel_rfl) (by simp) ?_
      refine AllL.cons rfl (fun K hK => ?_) ?_
      rotate_left
      · exact AllL.nil
      go_simp
      obtain ⟨wz, hwz⟩ : ∃ wz, (wb.setCell ⟨w5.heap.size, 0, none⟩ (.int .i64 ((rngP y.k).getD (0, 0)).1)).setCell ⟨w5.heap.size, 1, none⟩ (.int .i64 ((rngP y.k).getD (0, 0)).2) = wz := ⟨_, rfl⟩
      rw [hwz]
      have hs5 : w3.heap.size + 1 < w5.heap.size := (Array.getElem?_eq_some_iff.1 Y5).1
      have H12 : wz.cell? ⟨w3.heap.size + 1, 0, none⟩ = some (.int .u8 y.k) := by
        rw [← hwz, World.cell?_setCell_other _ _ _ _ (by intro e; injection e with e; omega), World.cell?_setCell_other _ _ _ _ (by intro e; injection e with e; omega)]
        exact H9
      have H13 : (Instr.lookup 75 (.map (some bm)) (.int .u8 y.k) true).run Try.prog wz = .ok (.tuple #[.agg #[.int .i64 ((rngP y.k).getD (0, 0)).1, .int .i64 ((rngP y.k).getD (0, 0)).2], .bool (rngP y.k).isSome]) wz := by
        have hne := HM.out.ne BB
        rw [← hwz]
        exact ((HM.out.off hne 0 _).off hne 1 _).look y.k hk.1 hk.2
      have Z0 := (BB.cell 0 (.int .i64 ((rngP y.k).getD (0, 0)).1)).cell 1 (.int .i64 ((rngP y.k).getD (0, 0)).2)
      have Z1 := (((X5.on K6).off1 (c := w5.heap.size) (by omega) 0 (.int .i64 ((rngP y.k).getD (0, 0)).1)).off1 (c := w5.heap.size) (by omega) 1 (.int .i64 ((rngP y.k).getD (0, 0)).2))
      have Z2 := (((Y5.on K6).off1 (c := w5.heap.size) (by omega) 0 (.int .i64 ((rngP y.k).getD (0, 0)).1)).off1 (c := w5.heap.size) (by omega) 1 (.int .i64 ((rngP y.k).getD (0, 0)).2))
      rw [hwz] at Z0 Z1 Z2
      simp only [List.setIfInBounds_toArray, List.set_cons_zero, List.set_cons_succ] at Z0
      have Z3 : Bl w wz := by
        rw [← hwz]
        have hs := K5.size
        exact ((K5.on K6).setCell (by show w.heap.size ≤ w5.heap.size; omega) _).setCell (by show w.heap.size ≤ w5.heap.size; omega) _
      have HF := Lib.hid (And.intro Z1 (And.intro Z2 (And.intro Z0 Z3)))
      clear Z0 Z1 Z2 Z3 hwz hs5 HSS X5 Y5 K5 K6 BB H9 b0 b1 f0 f1 HM hws
      refine hK.out _ _ (⟨H12, H13⟩) (fun hHeld => ?_)
      clear hK K
      try simp only [Act.put, List.setIfInBounds_toArray, List.set_cons_zero, List.set_cons_succ, List.getElem_toArray, List.getElem_cons_zero, List.getElem_cons_succ]
      refine anyL_ready (rs := [9]) (by kernel_rfl) (by simp) ?_
      refine AllL.last rfl (by kernel_rfl) (fun K hK => ?_) ?_
      rotate_left
      · exact AllL.nil
      go_simp
      refine hK.out _ _ ?_
      clear hK K
      try simp only [Act.put, List.setIfInBounds_toArray, List.set_cons_zero, List.set_cons_succ, List.getElem_toArray, List.getElem_cons_zero, List.getElem_cons_succ]
      refine anyL_done (by kernel_rfl) ?_ _
      clear H12 H13 hHeld hHeld2
      go_wp2_with fail
      go_meet
      case rel => exact ⟨_, rfl, rfl, HF.out.1, HF.out.2.1, HF.out.2.2.1, HF.out.2.2.2⟩
  case rest =>
    obtain ⟨q, rfl, rfl, X, Y, B, K⟩ := hcut
    have x0 := (X.at 0).1
    have x5 := (X.at 5).1
    have x6 := (X.at 6).1
    have y0 := (Y.at 0).1
    have b0 := (B.at 0).1
    have b1 := (B.at 1).1
    simp only [List.getElem?_toArray, List.getElem?_cons_zero, List.getElem?_cons_succ] at x0 x5 x6 y0 b0 b1
    have HK := Lib.hid K
    have HV : Hid (∀ a c d e, (rngP y.k).isSome = a → (y.k == 8) = c → (x.k == 9) = d → (x.k == 8) = e → (r1, r2, r3) = if (a || c) = true then (if (d || e) = true then (x.lo, x.hi, true) else (((rngP y.k).getD (0, 0)).1, ((rngP y.k).getD (0, 0)).2, true)) else (0, 0, false)) := Lib.hid (fun a c d e h1 h2 h3 h4 => by rw [← HRV.out]; unfold rangeV; rw [h1, h2, h3, h4])
    generalize ((rngP y.k).getD (0, 0)).1 = lo at *
    generalize ((rngP y.k).getD (0, 0)).2 = hi at *
    generalize (rngP y.k).isSome = a at *
    clear X Y B K hk HRV
    cases a <;> cases h2 : (y.k == 8) <;> cases h3 : (x.k == 9) <;> cases h4 : (x.k == 8)
    all_goals
      have hv := HV.out _ _ _ _ rfl h2 h3 h4
      clear HV
      simp only [Bool.or_true, Bool.or_false, Bool.true_or, Bool.false_or, if_true, if_false, Bool.false_eq_true] at hv
      have hne : (y.k != 8) = !(y.k == 8) := rfl
      rw [h2] at hne
      simp only [Bool.not_true, Bool.not_false] at hne
      simp only [Prod.mk.injEq] at hv
      obtain ⟨rfl, rfl, rfl⟩ := hv
      go_wp2_with fail
      try go_quiet (fail)
      try go_wp2_with fail
      go_ret3
      first | exact ⟨rfl, HK.out⟩ | exact ⟨rfl, HK.out.on ⟨rfl, rfl, rfl, Nat.le_refl _, fun _ _ => rfl⟩⟩
theorem tordinal_any {w : World} {t g cap : Nat} {L : List TyV} (h : Tab w t g cap L) (i : Int) (hk : 0 ≤ (atP L (baseP L i)).k ∧ (atP L (baseP L i)).k ≤ 255) : Calls Try.prog 17 #[.pointer (some ⟨t, 0, none⟩), .int .i64 i] w fun e w' => e = .returned (.bool (rangeP L i).2.2) ∧ Bl w w' := by
  have HR := range_any h i hk
  generalize rangeP L i = r at *
  obtain ⟨r1, r2, r3⟩ := r
  simp only at HR ⊢
  clear h hk
  go_enter Try.func17, Try.ntmps17
  go_wp2_with fail
  refine HR.mono ?_
  rintro e w1 ⟨rfl, k1⟩
  go_wp2_with fail
  go_ret
  exact ⟨rfl, k1⟩
end Go.Proofs.Ytepfknfadpkigaa
