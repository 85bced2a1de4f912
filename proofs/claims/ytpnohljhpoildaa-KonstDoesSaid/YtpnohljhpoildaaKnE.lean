/- Package konst: its tables of functions. -/
import Derived.Test.YtpnohljhpoildaaKnD
import Derived.Maps.Own
import Derived.Maps.OwnSet
import Derived.Maps.OwnOps
import Derived.Maps.Views
namespace Go.Proofs.Ytpnohljhpoildaa
open Go.RowKit
set_option maxHeartbeats 1000000
set_option maxRecDepth 100000
set_option linter.unusedVariables false
set_option linter.unusedSimpArgs false

open Go.Maps Go.WideMaps
/-- A function of the program that has a body. -/
def Enters (f : FuncId) : Prop := ∃ fn c, Try.prog.funcs[f]? = some fn ∧ (fn.name == "runtime.NumGoroutine") = false ∧ fn.body = some c
theorem run_enters {f : FuncId} (h : Enters f) (args : Array Value) (w : World) : (callFunc f args).run Try.prog w = .ok (.enter f args) w := by
  obtain ⟨fn, c, h1, h2, h3⟩ := h
  have h4 : ¬ fn.name = "runtime.NumGoroutine" := by simpa using h2
  simp [callFunc, h1, h3, h4, go_sem]
/-- Maps, and variables that closures hold, are as they were. -/
def kept : Obj → Bool
  | .map _ _ => true
  | .cells _ t _ => t == 94 || t == 66
  | _ => false
def Ke (w w' : World) : Prop := ∀ (j : Nat) (o : Obj), w.heap[j]? = some o → kept o = true → w'.heap[j]? = some o
theorem Ke.on {a b c : World} (h : Ke a b) (k : Ke b c) : Ke a c := fun j o h1 h2 => k j o (h j o h1 h2) h2
theorem lt_at {w : World} {j : Nat} {o : Obj} (h : w.heap[j]? = some o) : j < w.heap.size := (Array.getElem?_eq_some_iff.1 h).1
theorem Bl.ke {w w' : World} (h : Bl w w') : Ke w w' := fun j o h1 _ => (h.block j (lt_at h1)).trans h1
/-- A function of a table: what it answers, from w on. -/
def DoF (w : World) (C : Int → Int → Prop) (v : Value) (g : Do2) : Prop := ∃ f c, v = .func (.func f) #[] c ∧ Enters f ∧ ∀ w', Ke w w' → ∀ x y, C x y → Calls Try.prog f (#[.int .i64 x, .int .i64 y] ++ c) w' (Ans (g x y) w')
theorem DoF.on {w w' : World} {C : Int → Int → Prop} {v : Value} {g : Do2} (h : DoF w C v g) (k : Ke w w') : DoF w' C v g := by
  obtain ⟨f, c, h1, h2, h3⟩ := h
  exact ⟨f, c, h1, h2, fun w2 k2 x y hC => h3 w2 (k.on k2) x y hC⟩
def fv (v : Value) : Option (DataW Value × List MemPlace) := some (.held v, [])
def fvD : List (List UInt8 × Value) → DataW Value
  | [] => .map []
  | p :: r => (fvD r).put (.string p.1) (.held p.2)
theorem fvD_map : ∀ l, IsMap (fvD l)
  | [] => ⟨[], rfl⟩
  | p :: r => by
    obtain ⟨es, e⟩ := fvD_map r
    show IsMap ((fvD r).put _ _)
    rw [e]
    exact ⟨_, rfl⟩
theorem fvD_at (x : List UInt8) : ∀ l : List (List UInt8 × Value), (fvD l).atKey (.string x) (.held .nilFunc) = .held ((l.lookup x).getD .nilFunc)
  | [] => rfl
  | (y, k) :: r => by
    have h1 := fvD_at x r
    by_cases h : x = y
    · subst h
      show ((fvD r).put (.string x) _).atKey _ _ = _
      rw [atKey_put_same (fvD_map r) (show WideAt.IsKeyLit (.string x) from trivial)]
      simp [List.lookup]
    · have hne : (Lit.string x) ≠ .string y := fun e => h (by injection e)
      have hb : (x == y) = false := beq_eq_false_iff_ne.2 h
      show ((fvD r).put (.string y) _).atKey _ _ = _
      rw [atKey_put_other hne, h1]
      simp [List.lookup, hb]
theorem lawS : Keyed Try.prog 9 := string_keyed Try.underlying9
theorem zeroDo (w : World) : (zeroValue 72).run Try.prog w = .ok .nilFunc w := by kernel_rfl
theorem size_lit (l : List UInt8) : (⟨l.toArray⟩ : ByteArray).size = l.length := by simp [ByteArray.size]
theorem key_lit (l : List UInt8) (hl : l.length ≤ 4096) : keyOf Try.prog 9 (.string ⟨l.toArray⟩) = some (.string l) := by
  have := keyOf_string_mk (P := Try.prog) Try.underlying9 (s := ⟨l.toArray⟩) (by rw [size_lit]; unfold maxLen; omega)
  simpa using this
/-- A map under way, on top of W. -/
structure Tf (W w : World) (l : List (List UInt8 × Value)) (n : Nat) (cs : List (Nat × Value)) : Prop where
  own : w.ownsMap Try.prog 9 fv W.heap.size n (fvD l)
  f : Below W.heap.size W w
  c : ∀ p ∈ cs, W.heap.size < p.1 ∧ p.1 < w.heap.size ∧ w.heap[p.1]? = some (.cells #[p.2] 94)
theorem Tf.new (W : World) : Tf W (W.alloc (.map #[] 0)) [] 0 [] := ⟨World.ownsMap_made (H := Value) W Try.prog 9 fv, (Below.refl _ _).alloc (Nat.le_refl _) _, fun p hp => by cases hp⟩
theorem own_lt {w : World} {b n : Nat} {D : DataW Value} (h : w.ownsMap Try.prog 9 fv b n D) : b < w.heap.size := by
  obtain ⟨es, cl, h1, _⟩ := h
  rw [Array.getElem?_eq_some_iff] at h1
  exact h1.1
theorem own_on {w w' : World} {b n : Nat} {D : DataW Value} (h : w.ownsMap Try.prog 9 fv b n D) (k : Ke w w') : w'.ownsMap Try.prog 9 fv b n D := by
  obtain ⟨es, cl, h1, h2⟩ := h
  exact ⟨es, cl, k b _ h1 rfl, h2⟩
theorem Tf.alloc {W w : World} {l : List (List UInt8 × Value)} {n : Nat} {cs : List (Nat × Value)} (h : Tf W w l n cs) (v : Value) : Tf W (w.alloc (.cells #[v] 94)) l n ((w.heap.size, v) :: cs) := by
  have hb : Bl w (w.alloc (.cells #[v] 94)) := (Below.refl _ _).alloc (Nat.le_refl _) _
  have hl := own_lt h.own
  refine ⟨own_on h.own hb.ke, h.f.trans (hb.mono h.f.size), fun p hp => ?_⟩
  rcases List.mem_cons.1 hp with rfl | hp
  · exact ⟨hl, by simp, by show (w.heap.push _)[w.heap.size]? = _; simp⟩
  · obtain ⟨h1, h2, h3⟩ := h.c p hp
    exact ⟨h1, by simp; omega, (hb.block _ h2).trans h3⟩
theorem wpList_insert_fv {W w : World} {ops : Array Oper} {rest : List Oper} {o : Oper} {a : Act} {Q : Exit → Act → World → Prop} {l : List (List UInt8 × Value)} {n : Nat} {cs : List (Nat × Value)}
    (hT : Tf W w l n cs) (hg : o.guard = none) (m x v : Operand) (hop : o.op = Op.insert 70 m x v)
    (hm : a.eval m = .map (some W.heap.size)) (hn : n < 100) (key : List UInt8) (hl : key.length ≤ 16) (val : Value) (hx : a.eval x = .string ⟨key.toArray⟩) (hv : a.eval v = val)
    (hK : ∀ w', Tf W w' ((key, val) :: l) (n + 1) cs → wpList Try.prog ops Q rest (a.put o.dst undef) w') :
    wpList Try.prog ops Q (o :: rest) a w := by
  refine wpList_plain hg fun K' hK' => ?_
  obtain ⟨w', hrun, r1, r2⟩ := hT.own.update lawS Try.underlying70 (by unfold maxLen; omega) (key_lit key (by omega)) (show fv val = some (.held val, []) from rfl)
  unfold Oper.wp
  simp [execOp, hop, hm, hx, hv, hrun, Result.andThen]
  refine hK' _ _ (hK w' ⟨r1, hT.f.grown r2 hT.f.size (fun k hk => by cases hk; exact Nat.le_refl _), fun p hp => ?_⟩)
  obtain ⟨h1, h2, h3⟩ := hT.c p hp
  have hs := r2.size
  exact ⟨h1, by omega, (r2.block p.1 h2 (fun e => by injection e with e; omega)).trans h3⟩
def CondT : Tn → Int → Int → Prop
  | .tw, x, y => inW x = true ∧ inW y = true
  | .ts, x, y => w16 x ∧ w16 y
  | .tm, x, y => w16 y
  | _, _, _ => True
/-- Block b is a map that reads as this table. -/
def MapT (w : World) (b : Nat) (t : Tn) : Prop := ∃ n l, w.ownsMap Try.prog 9 fv b n (fvD l) ∧ ∀ o : List UInt8, (∃ g v, (tab t).lookup o = some g ∧ l.lookup o = some v ∧ DoF w (CondT t) v g) ∨ ((tab t).lookup o = none ∧ l.lookup o = none)
theorem MapT.lt {w : World} {b : Nat} {t : Tn} (h : MapT w b t) : b < w.heap.size := by
  obtain ⟨n, l, h, _⟩ := h
  exact own_lt h
theorem MapT.on {w w' : World} {b : Nat} {t : Tn} (h : MapT w b t) (k : Ke w w') : MapT w' b t := by
  obtain ⟨n, l, h1, h2⟩ := h
  refine ⟨n, l, own_on h1 k, fun o => ?_⟩
  rcases h2 o with ⟨g, v, h3, h4, h5⟩ | h3
  · exact .inl ⟨g, v, h3, h4, h5.on k⟩
  · exact .inr h3
/-- The look-up. -/
theorem MapT.look {w : World} {b : Nat} {t : Tn} (h : MapT w b t) (o : List UInt8) (ho : o.length ≤ 4096) :
    (∃ g v, (tab t).lookup o = some g ∧ (Instr.lookup 70 (.map (some b)) (.string ⟨o.toArray⟩) false).run Try.prog w = .ok v w ∧ DoF w (CondT t) v g) ∨ ((tab t).lookup o = none ∧ (Instr.lookup 70 (.map (some b)) (.string ⟨o.toArray⟩) false).run Try.prog w = .ok .nilFunc w) := by
  obtain ⟨n, l, h1, h2⟩ := h
  obtain ⟨v, ps, hrun, hv⟩ := h1.lookup lawS Try.underlying70 (zeroDo w) (zd := .held .nilFunc) (zp := []) rfl (key_lit o ho)
  rw [fvD_at] at hv
  have hv : v = (l.lookup o).getD .nilFunc := by
    unfold fv at hv
    simp only [Option.some.injEq, Prod.mk.injEq, DataW.held.injEq] at hv
    exact hv.1
  rcases h2 o with ⟨g, u, h3, h4, h5⟩ | ⟨h3, h4⟩
  · rw [h4] at hv
    have hv : v = u := hv
    subst hv
    exact .inl ⟨g, v, h3, hrun, h5⟩
  · rw [h4] at hv
    have hv : v = .nilFunc := hv
    subst hv
    exact .inr ⟨h3, hrun⟩
theorem over_any (f : FuncId) (w : World) : Calls Try.prog 64 #[.func (.func f) #[] #[]] w fun e w' => e = .returned (.func (.func 78) #[] #[.pointer (some ⟨w.heap.size, 0, none⟩)]) ∧ w' = w.alloc (.cells #[.func (.func f) #[] #[]] 94) := by
  go_enter Try.func64, Try.ntmps64
  go_wp2_with fail
  go_ret
  exact ⟨rfl, rfl⟩
theorem questions_any (w : World) : Calls Try.prog 41 #[] w fun e w' => ∃ b, e = .returned (.map (some b)) ∧ Bl w w' ∧ MapT w' b .tq := by
  have hmm := @run_makeMap Try.prog
  have t0 := Tf.new w
  go_enter Try.func41, Try.ntmps41
  go_wp2_with (refine wpList_insert_fv t0 rfl _ _ _ rfl rfl (by omega) [61] (by decide) (.func (.func 54) #[] #[]) rfl rfl ?_)
  intro w1 t1
  clear t0
  go_wp2_with (refine wpList_insert_fv t1 rfl _ _ _ rfl rfl (by omega) [35] (by decide) (.func (.func 55) #[] #[]) rfl rfl ?_)
  intro w2 t2
  clear t1
  go_wp2_with (refine wpList_insert_fv t2 rfl _ _ _ rfl rfl (by omega) [60] (by decide) (.func (.func 56) #[] #[]) rfl rfl ?_)
  intro w3 t3
  clear t2
  go_wp2_with (refine wpList_insert_fv t3 rfl _ _ _ rfl rfl (by omega) [60, 61] (by decide) (.func (.func 57) #[] #[]) rfl rfl ?_)
  intro w4 t4
  clear t3
  go_wp2_with (refine wpList_insert_fv t4 rfl _ _ _ rfl rfl (by omega) [62] (by decide) (.func (.func 58) #[] #[]) rfl rfl ?_)
  intro w5 t5
  clear t4
  go_wp2_with (refine wpList_insert_fv t5 rfl _ _ _ rfl rfl (by omega) [62, 61] (by decide) (.func (.func 59) #[] #[]) rfl rfl ?_)
  intro w6 t6
  clear t5
  have H := Lib.hid t6
  clear t6
  go_wp2_with fail
  go_ret
  refine ⟨_, rfl, H.out.f, 6, _, H.out.own, fun o => ?_⟩
  by_cases h0 : o = [61]
  · subst h0
    exact .inl ⟨_, _, rfl, rfl, ⟨_, _, rfl, ⟨_, _, Try.func54, by kernel_rfl, rfl⟩, fun w' hw x y hC => c_questions_1 x y w'⟩⟩
  have e0 : (o == ([61] : List UInt8)) = false := beq_eq_false_iff_ne.2 h0
  by_cases h1 : o = [35]
  · subst h1
    exact .inl ⟨_, _, rfl, rfl, ⟨_, _, rfl, ⟨_, _, Try.func55, by kernel_rfl, rfl⟩, fun w' hw x y hC => c_questions_2 x y w'⟩⟩
  have e1 : (o == ([35] : List UInt8)) = false := beq_eq_false_iff_ne.2 h1
  by_cases h2 : o = [60]
  · subst h2
    exact .inl ⟨_, _, rfl, rfl, ⟨_, _, rfl, ⟨_, _, Try.func56, by kernel_rfl, rfl⟩, fun w' hw x y hC => c_questions_3 x y w'⟩⟩
  have e2 : (o == ([60] : List UInt8)) = false := beq_eq_false_iff_ne.2 h2
  by_cases h3 : o = [60, 61]
  · subst h3
    exact .inl ⟨_, _, rfl, rfl, ⟨_, _, rfl, ⟨_, _, Try.func57, by kernel_rfl, rfl⟩, fun w' hw x y hC => c_questions_4 x y w'⟩⟩
  have e3 : (o == ([60, 61] : List UInt8)) = false := beq_eq_false_iff_ne.2 h3
  by_cases h4 : o = [62]
  · subst h4
    exact .inl ⟨_, _, rfl, rfl, ⟨_, _, rfl, ⟨_, _, Try.func58, by kernel_rfl, rfl⟩, fun w' hw x y hC => c_questions_5 x y w'⟩⟩
  have e4 : (o == ([62] : List UInt8)) = false := beq_eq_false_iff_ne.2 h4
  by_cases h5 : o = [62, 61]
  · subst h5
    exact .inl ⟨_, _, rfl, rfl, ⟨_, _, rfl, ⟨_, _, Try.func59, by kernel_rfl, rfl⟩, fun w' hw x y hC => c_questions_6 x y w'⟩⟩
  have e5 : (o == ([62, 61] : List UInt8)) = false := beq_eq_false_iff_ne.2 h5
  exact .inr ⟨by simp [tab, List.lookup, e0, e1, e2, e3, e4, e5], by simp [List.lookup, e0, e1, e2, e3, e4, e5]⟩
theorem wholes_any (w : World) : Calls Try.prog 43 #[] w fun e w' => ∃ b, e = .returned (.map (some b)) ∧ Bl w w' ∧ MapT w' b .tw := by
  have hmm := @run_makeMap Try.prog
  have t0 := Tf.new w
  go_enter Try.func43, Try.ntmps43
  go_wp2_with (refine wpList_insert_fv t0 rfl _ _ _ rfl rfl (by omega) [43] (by decide) (.func (.func 60) #[] #[]) rfl rfl ?_)
  intro w1 t1
  clear t0
  go_wp2_with (refine wpList_insert_fv t1 rfl _ _ _ rfl rfl (by omega) [45] (by decide) (.func (.func 62) #[] #[]) rfl rfl ?_)
  intro w2 t2
  clear t1
  go_wp2_with (refine wpList_insert_fv t2 rfl _ _ _ rfl rfl (by omega) [42] (by decide) (.func (.func 63) #[] #[]) rfl rfl ?_)
  intro w3 t3
  clear t2
  go_wp2_with fail
  refine (over_any 65 _).mono ?_
  rintro e u3 ⟨rfl, hu3⟩
  have t3 := t3.alloc (.func (.func 65) #[] #[])
  obtain ⟨b3, hb3⟩ : ∃ b, w3.heap.size = b := ⟨_, rfl⟩
  rw [← hu3] at t3
  rw [hb3] at t3
  try rw [hb3]
  have HB3 := Lib.hid hb3
  clear hu3 hb3
  go_wp2_with (refine wpList_insert_fv t3 rfl _ _ _ rfl rfl (by omega) [68, 73, 86] (by decide) (.func (.func 78) #[] #[.pointer (some ⟨b3, 0, none⟩)]) rfl rfl ?_)
  intro w4 t4
  clear t3
  go_wp2_with fail
  refine (over_any 66 _).mono ?_
  rintro e u4 ⟨rfl, hu4⟩
  have t4 := t4.alloc (.func (.func 66) #[] #[])
  obtain ⟨b4, hb4⟩ : ∃ b, w4.heap.size = b := ⟨_, rfl⟩
  rw [← hu4] at t4
  rw [hb4] at t4
  try rw [hb4]
  have HB4 := Lib.hid hb4
  clear hu4 hb4
  go_wp2_with (refine wpList_insert_fv t4 rfl _ _ _ rfl rfl (by omega) [77, 79, 68] (by decide) (.func (.func 78) #[] #[.pointer (some ⟨b4, 0, none⟩)]) rfl rfl ?_)
  intro w5 t5
  clear t4
  have H := Lib.hid t5
  clear t5
  go_wp2_with fail
  go_ret
  refine ⟨_, rfl, H.out.f, 5, _, H.out.own, fun o => ?_⟩
  have c1 := (H.out.c (b3, .func (.func 65) #[] #[]) (by simp))
  have c2 := (H.out.c (b4, .func (.func 66) #[] #[]) (by simp))
  by_cases h0 : o = [43]
  · subst h0
    exact .inl ⟨_, _, rfl, rfl, ⟨_, _, rfl, ⟨_, _, Try.func60, by kernel_rfl, rfl⟩, fun w' hw x y hC => c_wholes_1 x y hC.1 hC.2 w'⟩⟩
  have e0 : (o == ([43] : List UInt8)) = false := beq_eq_false_iff_ne.2 h0
  by_cases h1 : o = [45]
  · subst h1
    exact .inl ⟨_, _, rfl, rfl, ⟨_, _, rfl, ⟨_, _, Try.func62, by kernel_rfl, rfl⟩, fun w' hw x y hC => c_wholes_2 x y hC.1 hC.2 w'⟩⟩
  have e1 : (o == ([45] : List UInt8)) = false := beq_eq_false_iff_ne.2 h1
  by_cases h2 : o = [42]
  · subst h2
    exact .inl ⟨_, _, rfl, rfl, ⟨_, _, rfl, ⟨_, _, Try.func63, by kernel_rfl, rfl⟩, fun w' hw x y hC => c_wholes_3 x y hC.1 hC.2 w'⟩⟩
  have e2 : (o == ([42] : List UInt8)) = false := beq_eq_false_iff_ne.2 h2
  by_cases h3 : o = [68, 73, 86]
  · subst h3
    exact .inl ⟨_, _, rfl, rfl, ⟨_, _, rfl, ⟨_, _, Try.func78, by kernel_rfl, rfl⟩, fun w' hw x y hC => over_div x y hC.1 hC.2 b3 w' (by have := hw _ _ c1.2.2 rfl; simp [World.cell?, this])⟩⟩
  have e3 : (o == ([68, 73, 86] : List UInt8)) = false := beq_eq_false_iff_ne.2 h3
  by_cases h4 : o = [77, 79, 68]
  · subst h4
    exact .inl ⟨_, _, rfl, rfl, ⟨_, _, rfl, ⟨_, _, Try.func78, by kernel_rfl, rfl⟩, fun w' hw x y hC => over_mod x y hC.1 hC.2 b4 w' (by have := hw _ _ c2.2.2 rfl; simp [World.cell?, this])⟩⟩
  have e4 : (o == ([77, 79, 68] : List UInt8)) = false := beq_eq_false_iff_ne.2 h4
  exact .inr ⟨by simp [tab, List.lookup, e0, e1, e2, e3, e4], by simp [List.lookup, e0, e1, e2, e3, e4]⟩
theorem truths_any (w : World) : Calls Try.prog 44 #[] w fun e w' => ∃ b, e = .returned (.map (some b)) ∧ Bl w w' ∧ MapT w' b .tt := by
  have hmm := @run_makeMap Try.prog
  have t0 := Tf.new w
  go_enter Try.func44, Try.ntmps44
  go_wp2_with (refine wpList_insert_fv t0 rfl _ _ _ rfl rfl (by omega) [65, 78, 68] (by decide) (.func (.func 67) #[] #[]) rfl rfl ?_)
  intro w1 t1
  clear t0
  go_wp2_with (refine wpList_insert_fv t1 rfl _ _ _ rfl rfl (by omega) [79, 82] (by decide) (.func (.func 68) #[] #[]) rfl rfl ?_)
  intro w2 t2
  clear t1
  have H := Lib.hid t2
  clear t2
  go_wp2_with fail
  go_ret
  refine ⟨_, rfl, H.out.f, 2, _, H.out.own, fun o => ?_⟩
  by_cases h0 : o = [65, 78, 68]
  · subst h0
    exact .inl ⟨_, _, rfl, rfl, ⟨_, _, rfl, ⟨_, _, Try.func67, by kernel_rfl, rfl⟩, fun w' hw x y hC => c_truths_1 x y w'⟩⟩
  have e0 : (o == ([65, 78, 68] : List UInt8)) = false := beq_eq_false_iff_ne.2 h0
  by_cases h1 : o = [79, 82]
  · subst h1
    exact .inl ⟨_, _, rfl, rfl, ⟨_, _, rfl, ⟨_, _, Try.func68, by kernel_rfl, rfl⟩, fun w' hw x y hC => c_truths_2 x y w'⟩⟩
  have e1 : (o == ([79, 82] : List UInt8)) = false := beq_eq_false_iff_ne.2 h1
  exact .inr ⟨by simp [tab, List.lookup, e0, e1], by simp [List.lookup, e0, e1]⟩
theorem sets_any (w : World) : Calls Try.prog 45 #[] w fun e w' => ∃ b, e = .returned (.map (some b)) ∧ Bl w w' ∧ MapT w' b .ts := by
  have hmm := @run_makeMap Try.prog
  have t0 := Tf.new w
  go_enter Try.func45, Try.ntmps45
  go_wp2_with (refine wpList_insert_fv t0 rfl _ _ _ rfl rfl (by omega) [43] (by decide) (.func (.func 69) #[] #[]) rfl rfl ?_)
  intro w1 t1
  clear t0
  go_wp2_with (refine wpList_insert_fv t1 rfl _ _ _ rfl rfl (by omega) [45] (by decide) (.func (.func 70) #[] #[]) rfl rfl ?_)
  intro w2 t2
  clear t1
  go_wp2_with (refine wpList_insert_fv t2 rfl _ _ _ rfl rfl (by omega) [42] (by decide) (.func (.func 71) #[] #[]) rfl rfl ?_)
  intro w3 t3
  clear t2
  go_wp2_with (refine wpList_insert_fv t3 rfl _ _ _ rfl rfl (by omega) [47] (by decide) (.func (.func 72) #[] #[]) rfl rfl ?_)
  intro w4 t4
  clear t3
  go_wp2_with (refine wpList_insert_fv t4 rfl _ _ _ rfl rfl (by omega) [60, 61] (by decide) (.func (.func 73) #[] #[]) rfl rfl ?_)
  intro w5 t5
  clear t4
  go_wp2_with (refine wpList_insert_fv t5 rfl _ _ _ rfl rfl (by omega) [62, 61] (by decide) (.func (.func 74) #[] #[]) rfl rfl ?_)
  intro w6 t6
  clear t5
  have H := Lib.hid t6
  clear t6
  go_wp2_with fail
  go_ret
  refine ⟨_, rfl, H.out.f, 6, _, H.out.own, fun o => ?_⟩
  by_cases h0 : o = [43]
  · subst h0
    exact .inl ⟨_, _, rfl, rfl, ⟨_, _, rfl, ⟨_, _, Try.func69, by kernel_rfl, rfl⟩, fun w' hw x y hC => c_sets_1 x y hC.1 hC.2 w'⟩⟩
  have e0 : (o == ([43] : List UInt8)) = false := beq_eq_false_iff_ne.2 h0
  by_cases h1 : o = [45]
  · subst h1
    exact .inl ⟨_, _, rfl, rfl, ⟨_, _, rfl, ⟨_, _, Try.func70, by kernel_rfl, rfl⟩, fun w' hw x y hC => c_sets_2 x y hC.1 hC.2 w'⟩⟩
  have e1 : (o == ([45] : List UInt8)) = false := beq_eq_false_iff_ne.2 h1
  by_cases h2 : o = [42]
  · subst h2
    exact .inl ⟨_, _, rfl, rfl, ⟨_, _, rfl, ⟨_, _, Try.func71, by kernel_rfl, rfl⟩, fun w' hw x y hC => c_sets_3 x y hC.1 hC.2 w'⟩⟩
  have e2 : (o == ([42] : List UInt8)) = false := beq_eq_false_iff_ne.2 h2
  by_cases h3 : o = [47]
  · subst h3
    exact .inl ⟨_, _, rfl, rfl, ⟨_, _, rfl, ⟨_, _, Try.func72, by kernel_rfl, rfl⟩, fun w' hw x y hC => c_sets_4 x y hC.1 hC.2 w'⟩⟩
  have e3 : (o == ([47] : List UInt8)) = false := beq_eq_false_iff_ne.2 h3
  by_cases h4 : o = [60, 61]
  · subst h4
    exact .inl ⟨_, _, rfl, rfl, ⟨_, _, rfl, ⟨_, _, Try.func73, by kernel_rfl, rfl⟩, fun w' hw x y hC => c_sets_5 x y hC.1 hC.2 w'⟩⟩
  have e4 : (o == ([60, 61] : List UInt8)) = false := beq_eq_false_iff_ne.2 h4
  by_cases h5 : o = [62, 61]
  · subst h5
    exact .inl ⟨_, _, rfl, rfl, ⟨_, _, rfl, ⟨_, _, Try.func74, by kernel_rfl, rfl⟩, fun w' hw x y hC => c_sets_6 x y hC.1 hC.2 w'⟩⟩
  have e5 : (o == ([62, 61] : List UInt8)) = false := beq_eq_false_iff_ne.2 h5
  exact .inr ⟨by simp [tab, List.lookup, e0, e1, e2, e3, e4, e5], by simp [List.lookup, e0, e1, e2, e3, e4, e5]⟩
theorem equals_any (w : World) : Calls Try.prog 46 #[] w fun e w' => ∃ b, e = .returned (.map (some b)) ∧ Bl w w' ∧ MapT w' b .te := by
  have hmm := @run_makeMap Try.prog
  have t0 := Tf.new w
  go_enter Try.func46, Try.ntmps46
  go_wp2_with (refine wpList_insert_fv t0 rfl _ _ _ rfl rfl (by omega) [61] (by decide) (.func (.func 75) #[] #[]) rfl rfl ?_)
  intro w1 t1
  clear t0
  go_wp2_with (refine wpList_insert_fv t1 rfl _ _ _ rfl rfl (by omega) [35] (by decide) (.func (.func 76) #[] #[]) rfl rfl ?_)
  intro w2 t2
  clear t1
  have H := Lib.hid t2
  clear t2
  go_wp2_with fail
  go_ret
  refine ⟨_, rfl, H.out.f, 2, _, H.out.own, fun o => ?_⟩
  by_cases h0 : o = [61]
  · subst h0
    exact .inl ⟨_, _, rfl, rfl, ⟨_, _, rfl, ⟨_, _, Try.func75, by kernel_rfl, rfl⟩, fun w' hw x y hC => c_equals_1 x y w'⟩⟩
  have e0 : (o == ([61] : List UInt8)) = false := beq_eq_false_iff_ne.2 h0
  by_cases h1 : o = [35]
  · subst h1
    exact .inl ⟨_, _, rfl, rfl, ⟨_, _, rfl, ⟨_, _, Try.func76, by kernel_rfl, rfl⟩, fun w' hw x y hC => c_equals_2 x y w'⟩⟩
  have e1 : (o == ([35] : List UInt8)) = false := beq_eq_false_iff_ne.2 h1
  exact .inr ⟨by simp [tab, List.lookup, e0, e1], by simp [List.lookup, e0, e1]⟩
theorem members_any (w : World) : Calls Try.prog 47 #[] w fun e w' => ∃ b, e = .returned (.map (some b)) ∧ Bl w w' ∧ MapT w' b .tm := by
  have hmm := @run_makeMap Try.prog
  have t0 := Tf.new w
  go_enter Try.func47, Try.ntmps47
  go_wp2_with (refine wpList_insert_fv t0 rfl _ _ _ rfl rfl (by omega) [73, 78] (by decide) (.func (.func 77) #[] #[]) rfl rfl ?_)
  intro w1 t1
  clear t0
  have H := Lib.hid t1
  clear t1
  go_wp2_with fail
  go_ret
  refine ⟨_, rfl, H.out.f, 1, _, H.out.own, fun o => ?_⟩
  by_cases h0 : o = [73, 78]
  · subst h0
    exact .inl ⟨_, _, rfl, rfl, ⟨_, _, rfl, ⟨_, _, Try.func77, by kernel_rfl, rfl⟩, fun w' hw x y hC => by
      by_cases hx : x < 0
      · exact c_members_out x y hx w'
      · exact c_members_in x y (by omega) hC w'⟩⟩
  have e0 : (o == ([73, 78] : List UInt8)) = false := beq_eq_false_iff_ne.2 h0
  exact .inr ⟨by simp [tab, List.lookup, e0], by simp [List.lookup, e0]⟩
end Go.Proofs.Ytpnohljhpoildaa
