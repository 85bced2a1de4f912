/- Package konst: what panics; what is the same. -/
import Derived.Test.YtpnohljhpoildaaKnJ
import Derived.Tactics
import Derived.Tactics2
import Derived.Defers
import Derived.Recover
import Derived.Deep.RegionWith
namespace Go.Proofs.Ytpnohljhpoildaa
open Go.RowKit
set_option maxHeartbeats 1000000
set_option maxRecDepth 100000
set_option linter.unusedVariables false
set_option linter.unusedSimpArgs false

theorem fieldT (a b c d : Value) (w : World) : (Instr.field 66 (.agg #[a, b, c, d]) 0).run Try.prog w = .ok a w := by kernel_rfl
theorem is_any (v : PV) (hv : v.wf) (w : World) : Calls Try.prog 17 #[v.val] w fun e w' => e = .returned (.bool ((tellP v).s != 0)) ∧ Bl w w' := by
  have HT := tell_any v hv
  have hfd := fieldT
  obtain ⟨vv, hvv⟩ : ∃ x, v.val = x := ⟨_, rfl⟩
  rw [hvv] at HT ⊢
  obtain ⟨x, hx⟩ : ∃ x, tellP v = x := ⟨_, rfl⟩
  rw [hx] at HT ⊢
  clear hvv hx hv
  obtain ⟨s, t, x, n⟩ := x
  unfold TV.val at *
  go_enter Try.func17, Try.ntmps17
  go_wp2_with fail
  refine (HT _).mono ?_
  rintro e w2 ⟨rfl, k2⟩
  have K2 := Lib.hid k2
  clear k2
  go_wp2_with fail
  go_ret
  exact ⟨rfl, K2.out⟩
theorem same_any (v : PV) (hv : v.wf) (l : LV) (w : World) : Calls Try.prog 15 #[v.val, l.val] w fun e w' => e = .returned (.bool ((lookP v).eq l)) ∧ Bl w w' := by
  have HT := look_any v hv
  have HQ := eqV (lookP v) l
  have hgd := grdV
  obtain ⟨vv, hvv⟩ : ∃ x, v.val = x := ⟨_, rfl⟩
  rw [hvv] at HT ⊢
  obtain ⟨r, hr⟩ : ∃ r, (lookP v).eq l = r := ⟨_, rfl⟩
  rw [hr] at HQ ⊢
  obtain ⟨x, hx⟩ : ∃ x, lookP v = x := ⟨_, rfl⟩
  rw [hx] at HT HQ
  clear hvv hx hv hr
  obtain ⟨s, n, x, t⟩ := x
  obtain ⟨s2, n2, x2, t2⟩ := l
  unfold LV.val at *
  go_enter Try.func15, Try.ntmps15
  have hb0 : Bl w (w.alloc (.cells #[.int .i64 s2, .int .i64 n2, .string x2, .int .i64 t2] 29)) := (Below.refl _ _).alloc (Nat.le_refl _) _
  have hbx : (w.alloc (.cells #[.int .i64 s2, .int .i64 n2, .string x2, .int .i64 t2] 29)).heap[w.heap.size]? = some (.cells #[.int .i64 s2, .int .i64 n2, .string x2, .int .i64 t2] 29) := by
    show (w.heap.push _)[w.heap.size]? = _
    simp
  go_wp2_with fail
  go_region_with (go_at_call 9; refine (HT _).mono ?_; rintro e w2 ⟨rfl, k2⟩; have hk := (k2.block w.heap.size (by simp)).trans hbx; have q0 : w2.cell? ⟨w.heap.size, 0, none⟩ = some (.int .i64 s2) := (by simp [World.cell?, hk]); have q1 : w2.cell? ⟨w.heap.size, 1, none⟩ = some (.int .i64 n2) := (by simp [World.cell?, hk]); have q2 : w2.cell? ⟨w.heap.size, 2, none⟩ = some (.string x2) := (by simp [World.cell?, hk]); have q3 : w2.cell? ⟨w.heap.size, 3, none⟩ = some (.int .i64 t2) := (by simp [World.cell?, hk]))
  all_goals
    have K2 := Lib.hid (Bl.on (Below.drew hb0) k2)
    clear k2 hb0 hbx hk
    go_wp2_with fail
    go_ret
    exact ⟨rfl, K2.out⟩
theorem ta_null (w : World) : (Instr.typeAssert (.iface 52 (.agg #[])) 20 42 false).run Try.prog w = .halt (.panic (.iface 15 (.pointer (some ⟨w.heap.size, 0, none⟩)))) (w.alloc (.cells #[typeHandle Try.prog 20, typeHandle Try.prog 52, typeHandle Try.prog 42, strVal ""] 97)) := by kernel_rfl
theorem ta_whole (n : Int) (w : World) : (Instr.typeAssert (.iface 42 (.int .i64 n)) 20 42 false).run Try.prog w = .ok (.int .i64 n) w := by kernel_rfl
/-- It panicked. -/
def Panics (w : World) (e : Ending) (w' : World) : Prop := ∃ v, e = .panicked [{ v := .iface 15 v, recovered := false }] ∧ Bl w w'
theorem whole_null (w : World) : Calls Try.prog 36 #[.iface 52 (.agg #[])] w (Panics w) := by
  have h := ta_null
  go_enter Try.func36, Try.ntmps36
  go_wp2_with fail
  exact ⟨rfl, _, rfl, (Below.refl _ _).alloc (Nat.le_refl _) _⟩
theorem must_null (w : World) : Calls Try.prog 20 #[.iface 52 (.agg #[])] w (Panics w) := by
  go_enter Try.func20, Try.ntmps20
  go_wp2_with fail
  refine (whole_null _).mono ?_
  rintro e w2 ⟨v, rfl, k2⟩
  go_wp2_with fail
  exact ⟨rfl, _, rfl, k2⟩
theorem whole_is (n : Int) (w : World) : Calls Try.prog 36 #[.iface 42 (.int .i64 n)] w fun e w' => e = .returned (.int .i64 n) ∧ w' = w := by
  have h := ta_whole
  go_enter Try.func36, Try.ntmps36
  go_wp2_with fail
  go_ret
  exact ⟨rfl, rfl⟩
theorem must_is (n : Int) (w : World) : Calls Try.prog 20 #[.iface 42 (.int .i64 n)] w fun e w' => e = .returned (.int .i64 n) ∧ w' = w := by
  go_enter Try.func20, Try.ntmps20
  go_wp2_with fail
  refine (whole_is n _).mono ?_
  rintro e w2 ⟨rfl, rfl⟩
  go_wp2_with fail
  go_ret
  exact ⟨rfl, rfl⟩
theorem catch_panicking (p : Addr) (x : Bool) (u : TypeId) (pv : Value) (older : List PanicEntry) (w : World) (hc : w.cell? p = some (.bool x)) (hz : w.frozen? p = false) :
    CallsD Try.prog 35 #[.pointer (some p)] (.panicking ({ v := .iface u pv, recovered := false } :: older)) w fun e u' w' =>
      e = .returned (.tuple #[]) ∧ u' = .panicking ({ v := .iface u pv, recovered := true } :: older) ∧ w' = w.setCell p (.bool true) := by
  refine callsD_of_wpS Try.func35 rfl fun c₀ cs hu => ?_
  apply wpS_seq
  apply wpS_region
  simp [wpOpsS, go_sem, recoverD, hu, Try.ntmps35, Exit.thenS]
  refine wpS_cond (t := true) (by simp [Act.eval, Array.replicate]) ?_
  simp only [if_true]
  apply wpS_region
  simp [wpOpsS, go_sem, hc, hz, bodyPostS, results, Try.results35]
theorem catch_idle (p : Addr) (w : World) :
    CallsD Try.prog 35 #[.pointer (some p)] .returning w fun e u' w' => e = .returned (.tuple #[]) ∧ u' = .returning ∧ w' = w := by
  refine callsD_of_wpS Try.func35 rfl fun c₀ cs hu => ?_
  apply wpS_seq
  apply wpS_region
  simp [wpOpsS, go_sem, recoverD, hu, Try.ntmps35, Exit.thenS]
  refine wpS_cond (t := false) (by simp [Act.eval, Array.replicate]) ?_
  simp only [Bool.false_eq_true, if_false]
  refine wpS_of_wp (wp_skip ?_)
  cases c₀
  simp_all [bodyPostS, results, Try.results35]
theorem panics_null (w : World) : Calls Try.prog 19 #[.iface 52 (.agg #[])] w fun e w' => e = .returned (.bool true) ∧ Bl w w' := by
  have hmf : ∀ (fn : Fn) (first cap : Array Value) (w : World), (Instr.makeFunc fn first cap).run Try.prog w = .ok (.func fn first cap) w := fun _ _ _ _ => rfl
  go_enter_defers Try.func19, Try.ntmps19
  go_wp2_with fail
  refine (must_null _).mono ?_
  rintro e w2 ⟨v, rfl, k2⟩
  have hb0 : Bl w (w.alloc (.cells #[.bool false] 4)) := (Below.refl _ _).alloc (Nat.le_refl _) _
  have hbx : (w.alloc (.cells #[.bool false] 4)).heap[w.heap.size]? = some (.cells #[.bool false] 4) := by
    show (w.heap.push _)[w.heap.size]? = _
    simp
  have hk := (k2.block w.heap.size (by simp)).trans hbx
  have hs := k2.size
  go_wp2_with fail
  refine leaves_cons (f := 35) (args := #[.pointer (some ⟨w.heap.size, 0, none⟩)]) (by simp) (by simp [go_sem]) ?_
  refine (catch_panicking ⟨w.heap.size, 0, none⟩ false _ _ [] _ (by simp [World.cell?, hk]) (by simp [World.frozen?, hk])).mono ?_
  rintro e u' w'' ⟨rfl, rfl, rfl⟩
  have hset : (w2.setCell ⟨w.heap.size, 0, none⟩ (.bool true)).cell? ⟨w.heap.size, 0, none⟩ = some (.bool true) := by simp [World.setCell, World.cell?, Array.getElem?_modify, hk]
  simp [Leaves, settle, results, Try.results19, go_sem, hset]
  exact (hb0.on k2).setCell (Nat.le_refl _) _
theorem panics_whole (n : Int) (w : World) : Calls Try.prog 19 #[.iface 42 (.int .i64 n)] w fun e w' => e = .returned (.bool false) ∧ Bl w w' := by
  have hmf : ∀ (fn : Fn) (first cap : Array Value) (w : World), (Instr.makeFunc fn first cap).run Try.prog w = .ok (.func fn first cap) w := fun _ _ _ _ => rfl
  go_enter_defers Try.func19, Try.ntmps19
  go_wp2_with fail
  refine (must_is n _).mono ?_
  rintro e w2 ⟨rfl, rfl⟩
  go_wp2_with fail
  refine leaves_cons (f := 35) (args := #[.pointer (some ⟨w.heap.size, 0, none⟩)]) (by simp) (by simp [go_sem]) ?_
  refine (catch_idle ⟨w.heap.size, 0, none⟩ _).mono ?_
  rintro e u' w'' ⟨rfl, rfl, rfl⟩
  simp [Leaves, settle, results, Try.results19, go_sem]
  exact (Below.refl _ _).alloc (Nat.le_refl _) _
end Go.Proofs.Ytpnohljhpoildaa
