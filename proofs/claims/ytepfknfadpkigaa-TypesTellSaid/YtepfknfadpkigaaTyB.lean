/- Package types: kinds, bases, which are whole, which may be added. -/
import Derived.Test.YtepfknfadpkigaaTyA
namespace Go.Proofs.Ytepfknfadpkigaa
open Go.RowKit
set_option maxHeartbeats 1000000
set_option maxRecDepth 100000
set_option linter.unusedVariables false
set_option linter.unusedSimpArgs false

theorem setRow_under (w : World) (o : Obj) (g : Nat) (cs : Array Value) (hg : g < w.heap.size) : (w.alloc o).setRow g cs = (w.setRow g cs).alloc o := by
  simp only [World.setRow, World.alloc]
  congr 1
  apply Array.ext_getElem?
  intro i
  rw [Array.getElem?_modify, Array.getElem?_push, Array.getElem?_push, Array.size_modify, Array.getElem?_modify]
  by_cases h1 : g = i
  · subst h1
    have h2 : ¬ g = w.heap.size := by omega
    simp [h2]
  · by_cases h2 : i = w.heap.size
    · simp [h1, h2]
      intro e
      omega
    · simp [h1, h2]
theorem fieldTy0 (a0 a1 a2 a3 a4 a5 a6 a7 a8 a9 a10 a11 : Value) (w : World) : (Instr.field 43 (.agg #[a0, a1, a2, a3, a4, a5, a6, a7, a8, a9, a10, a11]) 0).run Try.prog w = .ok a0 w := by kernel_rfl
theorem fieldTy3 (a0 a1 a2 a3 a4 a5 a6 a7 a8 a9 a10 a11 : Value) (w : World) : (Instr.field 43 (.agg #[a0, a1, a2, a3, a4, a5, a6, a7, a8, a9, a10, a11]) 3).run Try.prog w = .ok a3 w := by kernel_rfl
theorem fieldTy4 (a0 a1 a2 a3 a4 a5 a6 a7 a8 a9 a10 a11 : Value) (w : World) : (Instr.field 43 (.agg #[a0, a1, a2, a3, a4, a5, a6, a7, a8, a9, a10, a11]) 4).run Try.prog w = .ok a4 w := by kernel_rfl
def kindP (L : List TyV) (i : Int) : Int := (atP L i).k
def baseP (L : List TyV) (i : Int) : Int := if (atP L i).k = 9 then (atP L i).b else i
def numP (L : List TyV) (i : Int) : Bool := kindP L (baseP L i) == 1 || kindP L (baseP L i) == 2 || kindP L (baseP L i) == 5
def addP (k : Int) : Bool := decide (8 ≤ k) && decide (k ≤ 17)
theorem kind_any {w : World} {t g cap : Nat} {L : List TyV} (h : Tab w t g cap L) (i : Int) : Calls Try.prog 33 #[.pointer (some ⟨t, 0, none⟩), .int .i64 i] w fun e w' => e = .returned (.int .u8 (kindP L i)) ∧ Bl w w' := by
  have HA := at_any h i
  have hfd := fieldTy0
  unfold kindP
  generalize atP L i = x at *
  unfold TyV.val at HA
  clear h
  go_enter Try.func33, Try.ntmps33
  go_wp2_with fail
  refine HA.mono ?_
  rintro e w1 ⟨rfl, k1⟩
  go_wp2_with fail
  go_ret
  exact ⟨rfl, k1⟩
theorem base_any {w : World} {t g cap : Nat} {L : List TyV} (h : Tab w t g cap L) (i : Int) : Calls Try.prog 15 #[.pointer (some ⟨t, 0, none⟩), .int .i64 i] w fun e w' => e = .returned (.int .i64 (baseP L i)) ∧ Bl w w' := by
  have HA := at_any h i
  unfold baseP
  generalize atP L i = x at *
  unfold TyV.val at HA
  clear h
  by_cases h9 : x.k = 9
  · have hb : (x.k == 9) = true := beq_iff_eq.2 h9
    rw [if_pos h9]
    clear h9
    go_enter Try.func15, Try.ntmps15
    go_wp2_with fail
    refine HA.mono ?_
    rintro e w1 ⟨rfl, k1⟩
    have KK := Lib.hid k1
    clear k1
    go_wp2_with (refine wpList_store_row rfl 43 _ _ rfl w1.heap.size #[.int .u8 x.k, .string x.m, .string x.n, .int .i64 x.b, .int .i64 x.x, .int .i64 x.lo, .int .i64 x.hi, .slice x.ns.p x.ns.n x.ns.c, .slice x.fs.p x.fs.n x.fs.c, .slice x.rs.p x.rs.n x.rs.c, .slice x.ps.p x.ps.n x.ps.c, .int .i64 x.r] rfl rfl 43 _ (heap_alloc_new _ _) infoTy rfl x.one ?_; rw [World.setRow_alloc_new])
    go_ret
    exact ⟨rfl, KK.out.on (bl_new _ _)⟩
  · have hb : (x.k == 9) = false := beq_eq_false_iff_ne.2 h9
    rw [if_neg h9]
    clear h9
    go_enter Try.func15, Try.ntmps15
    go_wp2_with fail
    refine HA.mono ?_
    rintro e w1 ⟨rfl, k1⟩
    have KK := Lib.hid k1
    clear k1
    go_wp2_with (refine wpList_store_row rfl 43 _ _ rfl w1.heap.size #[.int .u8 x.k, .string x.m, .string x.n, .int .i64 x.b, .int .i64 x.x, .int .i64 x.lo, .int .i64 x.hi, .slice x.ns.p x.ns.n x.ns.c, .slice x.fs.p x.fs.n x.fs.c, .slice x.rs.p x.rs.n x.rs.c, .slice x.ps.p x.ps.n x.ps.c, .int .i64 x.r] rfl rfl 43 _ (heap_alloc_new _ _) infoTy rfl x.one ?_; rw [World.setRow_alloc_new])
    go_ret
    exact ⟨rfl, KK.out.on (bl_new _ _)⟩
theorem number_any {w : World} {t g cap : Nat} {L : List TyV} (h : Tab w t g cap L) (i : Int) : Calls Try.prog 18 #[.pointer (some ⟨t, 0, none⟩), .int .i64 i] w fun e w' => e = .returned (.bool (numP L i)) ∧ Bl w w' := by
  have HB := base_any h i
  have HK := fun w1 (k : Bl w w1) => kind_any (h.on k) (baseP L i)
  unfold numP
  generalize baseP L i = b at *
  generalize kindP L b = x at *
  clear h
  cases h1 : (x == 1) <;> cases h2 : (x == 2) <;> cases h5 : (x == 5)
  all_goals
    go_enter Try.func18, Try.ntmps18
    go_wp2_with fail
    refine HB.mono ?_
    rintro e w1 ⟨rfl, k1⟩
    go_wp2_with fail
    refine (HK _ k1).mono ?_
    rintro e w2 ⟨rfl, k2⟩
    have KK := Lib.hid (k1.on k2)
    clear k1 k2
    go_wp2_with fail
    go_ret
    exact ⟨rfl, KK.out⟩
theorem addable_any (k : Int) (w : World) : Calls Try.prog 34 #[.int .u8 k] w fun e w' => e = .returned (.bool (addP k)) ∧ Bl w w' := by
  unfold addP
  rcases Int.lt_or_le k 8 with h1 | h1
  · have d1 : decide (k ≥ 8) = false := decide_eq_false (by omega)
    have d0 : decide (8 ≤ k) = false := decide_eq_false (by omega)
    rw [d0]
    go_enter Try.func34, Try.ntmps34
    go_wp2_with fail
    go_ret
    exact ⟨rfl, Below.refl _ _⟩
  · have d1 : decide (k ≥ 8) = true := decide_eq_true (by omega)
    have d0 : decide (8 ≤ k) = true := decide_eq_true (by omega)
    rw [d0]
    obtain ⟨b, hb⟩ : ∃ b, decide (k ≤ 17) = b := ⟨_, rfl⟩
    rw [hb]
    cases b
    all_goals
      go_enter Try.func34, Try.ntmps34
      go_wp2_with fail
      go_ret
      exact ⟨rfl, Below.refl _ _⟩
end Go.Proofs.Ytepfknfadpkigaa
