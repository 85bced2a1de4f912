/- tree.Read, walked. -/
import Derived.Test.YtliebhpddjbjeaaGreatDoorRdF
namespace Go.Proofs.YtliebhpddjbjeaaGreatDoor
open Go.RowKit
set_option maxHeartbeats 4000000
set_option maxRecDepth 100000
set_option linter.unusedVariables false
set_option linter.unusedSimpArgs false

def ReP (o : Res DT) (w : World) (e : Ending) (w' : World) : Prop :=
  match o with
  | .err c => e = .returned (.tuple #[.pointer none, .int .i64 c]) ∧ Below w.heap.size w w' ∧ c ≠ 0
  | .ok t r k => ∃ tr : Tr, e = .returned (.tuple #[ptrV tr.p, .int .i64 0]) ∧ Below w.heap.size w w' ∧ IsT w' (w.heap.size ≤ ·) tr ∧ tr.dt = t ∧ tr.nodes.Nodup
def fnV (w : World) : Value := .func (.func 62) #[] #[.pointer (some ⟨w.heap.size, 0, none⟩), .pointer (some ⟨w.heap.size + 1, 0, none⟩), .pointer (some ⟨w.heap.size + 1 + 1, 0, none⟩)]
def RW (w : World) (sb : ByteArray) : World := ((w.alloc (.cells #[.string sb] 92)).alloc (.cells #[.int .i64 0] 3)).alloc (.cells #[fnV w] 93)
theorem rw_rx (w : World) (hE : Env w) (s : List UInt8) : RX w w.heap.size (w.heap.size + 1) (w.heap.size + 1 + 1) s 0 (RW w ⟨s.toArray⟩) ∧ Below w.heap.size w (RW w ⟨s.toArray⟩) ∧ (RW w ⟨s.toArray⟩).heap.size = w.heap.size + 3 := by
  have s1 : (w.alloc (.cells #[.string ⟨s.toArray⟩] 92)).heap.size = w.heap.size + 1 := by simp
  have s2 : ((w.alloc (.cells #[.string ⟨s.toArray⟩] 92)).alloc (.cells #[.int .i64 0] 3)).heap.size = w.heap.size + 1 + 1 := by simp
  have v1 : Var (w.alloc (.cells #[.string ⟨s.toArray⟩] 92)) w.heap.size 92 (.string ⟨s.toArray⟩) := heap_alloc_new _ _
  have v2 : Var ((w.alloc (.cells #[.string ⟨s.toArray⟩] 92)).alloc (.cells #[.int .i64 0] 3)) (w.heap.size + 1) 3 (.int .i64 0) := by rw [← s1]; exact heap_alloc_new _ _
  have v3 : Var (RW w ⟨s.toArray⟩) (w.heap.size + 1 + 1) 93 (fnV w) := by rw [← s2]; exact heap_alloc_new _ _
  have f1 : Fr [] w (w.alloc (.cells #[.string ⟨s.toArray⟩] 92)) := Fr.alloc _ _
  have f2 := Fr.alloc (w.alloc (.cells #[.string ⟨s.toArray⟩] 92)) (.cells #[.int .i64 0] 3)
  have f3 : Fr [] ((w.alloc (.cells #[.string ⟨s.toArray⟩] 92)).alloc (.cells #[.int .i64 0] 3)) (RW w ⟨s.toArray⟩) := Fr.alloc _ _
  have f24 := f2.trans f3 (by simp)
  have hb : Below w.heap.size w (RW w ⟨s.toArray⟩) := (f1.trans f24 (by simp)).below _ (by simp) (Nat.le_refl _)
  exact ⟨⟨⟨hE, Nat.le_refl _, hb, v1.keep f24 (by simp)⟩, v2.keep f3 (by simp), v3, by omega, by omega, by omega⟩, hb, by simp [RW]⟩
theorem tRead_any (w : World) (hE : Env w) (s : List UInt8) (hl : s.length ≤ 1048576) :
    Calls Tryz.prog 28 #[.string ⟨s.toArray⟩] w fun e w' => ReP (readM s) w e w' := by
  obtain ⟨hx, hb, hsz⟩ := rw_rx w hE s
  have HR := read1 w w.heap.size (w.heap.size + 1) (w.heap.size + 1 + 1) (s.length + 1) 1 0 s _ hx (by omega) hl (by omega) (by omega)
  have cf := hx.fv.c
  have HB := Lib.hid (And.intro hb hsz)
  clear hx hb hsz hE
  simp only [RW, fnV] at HR cf HB
  generalize (⟨s.toArray⟩ : ByteArray) = sb at *
  have hsf := fun (a : Addr) (c : Array Value) (w : World) => run_store Tryz.prog w a (.func (.func 62) #[] c) .plain rfl
  go_enter Tryz.func28, Tryz.ntmps28
  go_wp2_with fail
  refine HR.mono ?_
  rintro e w1 hp
  clear HR cf
  cases q : rdM (s.length + 1) 1 0 s with
  | err c =>
    rw [q] at hp
    obtain ⟨rfl, F, hc⟩ := hp
    have HE : Hid (readM s = .err c) := Lib.hid (by unfold readM; rw [q])
    have hcb : (c == 0) = false := beq_eq_false_iff_ne.2 hc
    have HBB := Lib.hid (HB.out.1.trans (F.below w.heap.size (fun j hj => by simp at hj; omega) (by rw [HB.out.2]; omega)))
    clear F q
    go_wp2_with fail
    go_ret2
    rw [HE.out]
    exact ⟨rfl, HBB.out, hc⟩
  | ok t r k =>
    rw [q] at hp
    obtain ⟨tr, rfl, hx5, F, hT, hdt, hnd, hr, hk⟩ := hp
    have HBB := Lib.hid (HB.out.1.trans (F.below w.heap.size (fun j hj => by simp at hj; omega) (by rw [HB.out.2]; omega)))
    have c5 := Var.c hx5.rc.rv
    cases r with
    | nil =>
      have HE : Hid (readM s = .ok t [] k) := Lib.hid (by unfold readM; rw [q])
      have HT : Hid (IsT w1 (w.heap.size ≤ ·) tr ∧ tr.dt = t ∧ tr.nodes.Nodup) := Lib.hid ⟨hT.keep (fun j hj _ => by rw [HB.out.2] at hj; omega) (fun _ _ _ => rfl), hdt, hnd⟩
      clear F q hx5 hT hdt hnd
      simp only [ptrV] at *
      go_wp2_with fail
      go_ret2
      rw [HE.out]
      exact ⟨tr, rfl, HBB.out, HT.out⟩
    | cons c r =>
      have HE : Hid (readM s = .err 7) := Lib.hid (by unfold readM; rw [q])
      have hne : (⟨(c :: r).toArray⟩ : ByteArray).toList.isEmpty = false := by
        rw [ByteArray.toList_eq]; simp
      clear F q hx5 hT hdt hnd
      generalize (⟨(c :: r).toArray⟩ : ByteArray) = rb at *
      simp only [ptrV] at *
      go_wp2_with fail
      go_ret2
      rw [HE.out]
      exact ⟨rfl, HBB.out, by decide⟩
end Go.Proofs.YtliebhpddjbjeaaGreatDoor
