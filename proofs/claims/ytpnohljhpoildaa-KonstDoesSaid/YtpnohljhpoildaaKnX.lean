/- The document of layer 10: questions. -/
import Derived.Test.YtpnohljhpoildaaKnW
namespace Go.Proofs.Ytpnohljhpoildaa
open Go.RowKit
set_option maxHeartbeats 4000000
set_option maxRecDepth 100000
set_option linter.unusedVariables false
set_option linter.unusedSimpArgs false

def truD (c : Bool) : LV := ⟨3, b2i c, nilS, 0⟩
def wholeD (n : Int) : LV × Int := if inW n = true then (⟨1, n, nilS, 0⟩, 0) else (zV, 101)
def AnsD (p : LV × Int) (w : World) (e : Ending) (w' : World) : Prop := e = .returned (.tuple #[p.1.val, .int .i64 p.2]) ∧ Bl w w'
theorem truth_d (c : Bool) (w : World) : Calls Try.prog 27 #[.bool c] w fun e w' => e = .returned (truD c).val ∧ Bl w w' := by
  cases c
  all_goals
    go_enter Try.func27, Try.ntmps27
    go_wp2_with fail
    first
      | refine bodyPost_ret (v := .agg #[.int .i64 3, .int .i64 0, .string ⟨#[]⟩, .int .i64 0]) (by simp [results, Try.results27, go_sem]) rfl ⟨rfl, ?_⟩
      | refine bodyPost_ret (v := .agg #[.int .i64 3, .int .i64 1, .string ⟨#[]⟩, .int .i64 0]) (by simp [results, Try.results27, go_sem]) rfl ⟨rfl, ?_⟩
    repeat (first | exact Below.refl _ _ | assumption | refine Below.alloc ?_ (by simp <;> omega) _ | refine Below.setCell ?_ (by simp <;> omega) _)
theorem whole_d (n : Int) (w : World) : Calls Try.prog 33 #[.int .i64 n] w (AnsD (wholeD n) w) := by
  by_cases h1 : n < -32768
  · have h : wholeD n = (zV, 101) := if_neg (by unfold inW; simp; omega)
    rw [h]
    clear h
    go_enter Try.func33, Try.ntmps33
    go_wp2_with fail
    refine bodyPost_ret (v := .tuple #[.agg #[.int .i64 0, .int .i64 0, .string ⟨#[]⟩, .int .i64 0], .int .i64 101]) (by simp [results, Try.results33, go_sem]) rfl ⟨rfl, ?_⟩
    repeat (first | exact Below.refl _ _ | assumption | refine Below.alloc ?_ (by simp <;> omega) _ | refine Below.setCell ?_ (by simp <;> omega) _)
  · by_cases h2 : 65535 < n
    · have h : wholeD n = (zV, 101) := if_neg (by unfold inW; simp; omega)
      rw [h]
      clear h
      go_enter Try.func33, Try.ntmps33
      go_wp2_with fail
      refine bodyPost_ret (v := .tuple #[.agg #[.int .i64 0, .int .i64 0, .string ⟨#[]⟩, .int .i64 0], .int .i64 101]) (by simp [results, Try.results33, go_sem]) rfl ⟨rfl, ?_⟩
      repeat (first | exact Below.refl _ _ | assumption | refine Below.alloc ?_ (by simp <;> omega) _ | refine Below.setCell ?_ (by simp <;> omega) _)
    · have h : wholeD n = (⟨1, n, nilS, 0⟩, 0) := if_pos (by unfold inW; simp; omega)
      rw [h]
      clear h
      go_enter Try.func33, Try.ntmps33
      go_wp2_with fail
      refine bodyPost_ret (v := .tuple #[.agg #[.int .i64 1, .int .i64 n, .string ⟨#[]⟩, .int .i64 0], .int .i64 0]) (by simp [results, Try.results33, go_sem]) rfl ⟨rfl, ?_⟩
      repeat (first | exact Below.refl _ _ | assumption | refine Below.alloc ?_ (by simp <;> omega) _ | refine Below.setCell ?_ (by simp <;> omega) _)
theorem ordd_0 (x y : Int)  (w : World) : Calls Try.prog 31 #[.string ⟨#[61]⟩, .int .i64 x, .int .i64 y] w (AnsD (truD (x == y), 0) w) := by
  have HT := truth_d (x == y)
  have H0 := Four.new w (.int .i64 0) (.int .i64 0) (.string ⟨#[]⟩) (.int .i64 0) 29
  obtain ⟨c, hc⟩ : ∃ c, (x == y) = c := ⟨_, rfl⟩
  rw [hc] at HT ⊢
  obtain ⟨t, ht⟩ : ∃ t, truD c = t := ⟨_, rfl⟩
  rw [ht] at HT ⊢
  obtain ⟨ts, tn, tx, tt⟩ := t
  unfold LV.val at HT
  clear ht
  go_enter Try.func31, Try.ntmps31
  go_wp2_with fail
  refine (HT _).mono ?_
  rintro e w1 ⟨rfl, k1⟩
  have H1 := H0.on k1
  have c1 := H1.c
  obtain ⟨c10, c11, c12, c13⟩ := c1
  have f0 := H1.f 0
  have f1 := H1.f 1
  have f2 := H1.f 2
  have f3 := H1.f 3
  have hs := k1.size
  simp only [World.size_alloc] at hs
  have K1 := Lib.hid (show Bl w w1 from ((Below.refl _ _).alloc (Nat.le_refl _) _).trans (k1.mono (by simp)))
  go_wp2_with fail
  refine bodyPost_ret (v := .tuple #[.agg #[.int .i64 ts, .int .i64 tn, .string tx, .int .i64 tt], .int .i64 0]) (by simp [results, Try.results31, go_sem, c10, c11, c12, c13]) rfl ⟨rfl, ?_⟩
  have K2 := K1.out
  repeat (first | exact Below.refl _ _ | assumption | refine Below.alloc ?_ (by simp <;> omega) _ | refine Below.setCell ?_ (by simp <;> omega) _)
theorem ordd_1 (x y : Int)  (w : World) : Calls Try.prog 31 #[.string ⟨#[35]⟩, .int .i64 x, .int .i64 y] w (AnsD (truD (x != y), 0) w) := by
  have HT := truth_d (x != y)
  have H0 := Four.new w (.int .i64 0) (.int .i64 0) (.string ⟨#[]⟩) (.int .i64 0) 29
  obtain ⟨c, hc⟩ : ∃ c, (x != y) = c := ⟨_, rfl⟩
  rw [hc] at HT ⊢
  obtain ⟨t, ht⟩ : ∃ t, truD c = t := ⟨_, rfl⟩
  rw [ht] at HT ⊢
  obtain ⟨ts, tn, tx, tt⟩ := t
  unfold LV.val at HT
  clear ht
  go_enter Try.func31, Try.ntmps31
  go_wp2_with fail
  refine (HT _).mono ?_
  rintro e w1 ⟨rfl, k1⟩
  have H1 := H0.on k1
  have c1 := H1.c
  obtain ⟨c10, c11, c12, c13⟩ := c1
  have f0 := H1.f 0
  have f1 := H1.f 1
  have f2 := H1.f 2
  have f3 := H1.f 3
  have hs := k1.size
  simp only [World.size_alloc] at hs
  have K1 := Lib.hid (show Bl w w1 from ((Below.refl _ _).alloc (Nat.le_refl _) _).trans (k1.mono (by simp)))
  go_wp2_with fail
  refine bodyPost_ret (v := .tuple #[.agg #[.int .i64 ts, .int .i64 tn, .string tx, .int .i64 tt], .int .i64 0]) (by simp [results, Try.results31, go_sem, c10, c11, c12, c13]) rfl ⟨rfl, ?_⟩
  have K2 := K1.out
  repeat (first | exact Below.refl _ _ | assumption | refine Below.alloc ?_ (by simp <;> omega) _ | refine Below.setCell ?_ (by simp <;> omega) _)
theorem ordd_2 (x y : Int)  (w : World) : Calls Try.prog 31 #[.string ⟨#[60]⟩, .int .i64 x, .int .i64 y] w (AnsD (truD (decide (x < y)), 0) w) := by
  have HT := truth_d (decide (x < y))
  have H0 := Four.new w (.int .i64 0) (.int .i64 0) (.string ⟨#[]⟩) (.int .i64 0) 29
  obtain ⟨c, hc⟩ : ∃ c, (decide (x < y)) = c := ⟨_, rfl⟩
  rw [hc] at HT ⊢
  obtain ⟨t, ht⟩ : ∃ t, truD c = t := ⟨_, rfl⟩
  rw [ht] at HT ⊢
  obtain ⟨ts, tn, tx, tt⟩ := t
  unfold LV.val at HT
  clear ht
  go_enter Try.func31, Try.ntmps31
  go_wp2_with fail
  refine (HT _).mono ?_
  rintro e w1 ⟨rfl, k1⟩
  have H1 := H0.on k1
  have c1 := H1.c
  obtain ⟨c10, c11, c12, c13⟩ := c1
  have f0 := H1.f 0
  have f1 := H1.f 1
  have f2 := H1.f 2
  have f3 := H1.f 3
  have hs := k1.size
  simp only [World.size_alloc] at hs
  have K1 := Lib.hid (show Bl w w1 from ((Below.refl _ _).alloc (Nat.le_refl _) _).trans (k1.mono (by simp)))
  go_wp2_with fail
  refine bodyPost_ret (v := .tuple #[.agg #[.int .i64 ts, .int .i64 tn, .string tx, .int .i64 tt], .int .i64 0]) (by simp [results, Try.results31, go_sem, c10, c11, c12, c13]) rfl ⟨rfl, ?_⟩
  have K2 := K1.out
  repeat (first | exact Below.refl _ _ | assumption | refine Below.alloc ?_ (by simp <;> omega) _ | refine Below.setCell ?_ (by simp <;> omega) _)
theorem ordd_3 (x y : Int)  (w : World) : Calls Try.prog 31 #[.string ⟨#[60, 61]⟩, .int .i64 x, .int .i64 y] w (AnsD (truD (decide (x ≤ y)), 0) w) := by
  have HT := truth_d (decide (x ≤ y))
  have H0 := Four.new w (.int .i64 0) (.int .i64 0) (.string ⟨#[]⟩) (.int .i64 0) 29
  obtain ⟨c, hc⟩ : ∃ c, (decide (x ≤ y)) = c := ⟨_, rfl⟩
  rw [hc] at HT ⊢
  obtain ⟨t, ht⟩ : ∃ t, truD c = t := ⟨_, rfl⟩
  rw [ht] at HT ⊢
  obtain ⟨ts, tn, tx, tt⟩ := t
  unfold LV.val at HT
  clear ht
  go_enter Try.func31, Try.ntmps31
  go_wp2_with fail
  refine (HT _).mono ?_
  rintro e w1 ⟨rfl, k1⟩
  have H1 := H0.on k1
  have c1 := H1.c
  obtain ⟨c10, c11, c12, c13⟩ := c1
  have f0 := H1.f 0
  have f1 := H1.f 1
  have f2 := H1.f 2
  have f3 := H1.f 3
  have hs := k1.size
  simp only [World.size_alloc] at hs
  have K1 := Lib.hid (show Bl w w1 from ((Below.refl _ _).alloc (Nat.le_refl _) _).trans (k1.mono (by simp)))
  go_wp2_with fail
  refine bodyPost_ret (v := .tuple #[.agg #[.int .i64 ts, .int .i64 tn, .string tx, .int .i64 tt], .int .i64 0]) (by simp [results, Try.results31, go_sem, c10, c11, c12, c13]) rfl ⟨rfl, ?_⟩
  have K2 := K1.out
  repeat (first | exact Below.refl _ _ | assumption | refine Below.alloc ?_ (by simp <;> omega) _ | refine Below.setCell ?_ (by simp <;> omega) _)
theorem ordd_4 (x y : Int)  (w : World) : Calls Try.prog 31 #[.string ⟨#[62]⟩, .int .i64 x, .int .i64 y] w (AnsD (truD (decide (y < x)), 0) w) := by
  have HT := truth_d (decide (y < x))
  have H0 := Four.new w (.int .i64 0) (.int .i64 0) (.string ⟨#[]⟩) (.int .i64 0) 29
  obtain ⟨c, hc⟩ : ∃ c, (decide (y < x)) = c := ⟨_, rfl⟩
  rw [hc] at HT ⊢
  obtain ⟨t, ht⟩ : ∃ t, truD c = t := ⟨_, rfl⟩
  rw [ht] at HT ⊢
  obtain ⟨ts, tn, tx, tt⟩ := t
  unfold LV.val at HT
  clear ht
  go_enter Try.func31, Try.ntmps31
  go_wp2_with fail
  refine (HT _).mono ?_
  rintro e w1 ⟨rfl, k1⟩
  have H1 := H0.on k1
  have c1 := H1.c
  obtain ⟨c10, c11, c12, c13⟩ := c1
  have f0 := H1.f 0
  have f1 := H1.f 1
  have f2 := H1.f 2
  have f3 := H1.f 3
  have hs := k1.size
  simp only [World.size_alloc] at hs
  have K1 := Lib.hid (show Bl w w1 from ((Below.refl _ _).alloc (Nat.le_refl _) _).trans (k1.mono (by simp)))
  go_wp2_with fail
  refine bodyPost_ret (v := .tuple #[.agg #[.int .i64 ts, .int .i64 tn, .string tx, .int .i64 tt], .int .i64 0]) (by simp [results, Try.results31, go_sem, c10, c11, c12, c13]) rfl ⟨rfl, ?_⟩
  have K2 := K1.out
  repeat (first | exact Below.refl _ _ | assumption | refine Below.alloc ?_ (by simp <;> omega) _ | refine Below.setCell ?_ (by simp <;> omega) _)
theorem ordd_5 (x y : Int)  (w : World) : Calls Try.prog 31 #[.string ⟨#[62, 61]⟩, .int .i64 x, .int .i64 y] w (AnsD (truD (decide (y ≤ x)), 0) w) := by
  have HT := truth_d (decide (y ≤ x))
  have H0 := Four.new w (.int .i64 0) (.int .i64 0) (.string ⟨#[]⟩) (.int .i64 0) 29
  obtain ⟨c, hc⟩ : ∃ c, (decide (y ≤ x)) = c := ⟨_, rfl⟩
  rw [hc] at HT ⊢
  obtain ⟨t, ht⟩ : ∃ t, truD c = t := ⟨_, rfl⟩
  rw [ht] at HT ⊢
  obtain ⟨ts, tn, tx, tt⟩ := t
  unfold LV.val at HT
  clear ht
  go_enter Try.func31, Try.ntmps31
  go_wp2_with fail
  refine (HT _).mono ?_
  rintro e w1 ⟨rfl, k1⟩
  have H1 := H0.on k1
  have c1 := H1.c
  obtain ⟨c10, c11, c12, c13⟩ := c1
  have f0 := H1.f 0
  have f1 := H1.f 1
  have f2 := H1.f 2
  have f3 := H1.f 3
  have hs := k1.size
  simp only [World.size_alloc] at hs
  have K1 := Lib.hid (show Bl w w1 from ((Below.refl _ _).alloc (Nat.le_refl _) _).trans (k1.mono (by simp)))
  go_wp2_with fail
  refine bodyPost_ret (v := .tuple #[.agg #[.int .i64 ts, .int .i64 tn, .string tx, .int .i64 tt], .int .i64 0]) (by simp [results, Try.results31, go_sem, c10, c11, c12, c13]) rfl ⟨rfl, ?_⟩
  have K2 := K1.out
  repeat (first | exact Below.refl _ _ | assumption | refine Below.alloc ?_ (by simp <;> omega) _ | refine Below.setCell ?_ (by simp <;> omega) _)
theorem setd_q0 (x y : Int)  (w : World) : Calls Try.prog 29 #[.string ⟨#[61]⟩, .int .i64 x, .int .i64 y] w (AnsD (truD (x == y), 0) w) := by
  have HT := truth_d (x == y)
  have H0 := Four.new w (.int .i64 0) (.int .i64 0) (.string ⟨#[]⟩) (.int .i64 0) 29
  obtain ⟨c, hc⟩ : ∃ c, (x == y) = c := ⟨_, rfl⟩
  rw [hc] at HT ⊢
  obtain ⟨t, ht⟩ : ∃ t, truD c = t := ⟨_, rfl⟩
  rw [ht] at HT ⊢
  obtain ⟨ts, tn, tx, tt⟩ := t
  unfold LV.val at HT
  clear ht
  go_enter Try.func29, Try.ntmps29
  go_wp2_with fail
  refine (HT _).mono ?_
  rintro e w1 ⟨rfl, k1⟩
  have H1 := H0.on k1
  have c1 := H1.c
  obtain ⟨c10, c11, c12, c13⟩ := c1
  have f0 := H1.f 0
  have f1 := H1.f 1
  have f2 := H1.f 2
  have f3 := H1.f 3
  have hs := k1.size
  simp only [World.size_alloc] at hs
  have K1 := Lib.hid (show Bl w w1 from ((Below.refl _ _).alloc (Nat.le_refl _) _).trans (k1.mono (by simp)))
  go_wp2_with fail
  refine bodyPost_ret (v := .tuple #[.agg #[.int .i64 ts, .int .i64 tn, .string tx, .int .i64 tt], .int .i64 0]) (by simp [results, Try.results29, go_sem, c10, c11, c12, c13]) rfl ⟨rfl, ?_⟩
  have K2 := K1.out
  repeat (first | exact Below.refl _ _ | assumption | refine Below.alloc ?_ (by simp <;> omega) _ | refine Below.setCell ?_ (by simp <;> omega) _)
theorem setd_q1 (x y : Int)  (w : World) : Calls Try.prog 29 #[.string ⟨#[35]⟩, .int .i64 x, .int .i64 y] w (AnsD (truD (x != y), 0) w) := by
  have HT := truth_d (x != y)
  have H0 := Four.new w (.int .i64 0) (.int .i64 0) (.string ⟨#[]⟩) (.int .i64 0) 29
  obtain ⟨c, hc⟩ : ∃ c, (x != y) = c := ⟨_, rfl⟩
  rw [hc] at HT ⊢
  obtain ⟨t, ht⟩ : ∃ t, truD c = t := ⟨_, rfl⟩
  rw [ht] at HT ⊢
  obtain ⟨ts, tn, tx, tt⟩ := t
  unfold LV.val at HT
  clear ht
  go_enter Try.func29, Try.ntmps29
  go_wp2_with fail
  refine (HT _).mono ?_
  rintro e w1 ⟨rfl, k1⟩
  have H1 := H0.on k1
  have c1 := H1.c
  obtain ⟨c10, c11, c12, c13⟩ := c1
  have f0 := H1.f 0
  have f1 := H1.f 1
  have f2 := H1.f 2
  have f3 := H1.f 3
  have hs := k1.size
  simp only [World.size_alloc] at hs
  have K1 := Lib.hid (show Bl w w1 from ((Below.refl _ _).alloc (Nat.le_refl _) _).trans (k1.mono (by simp)))
  go_wp2_with fail
  refine bodyPost_ret (v := .tuple #[.agg #[.int .i64 ts, .int .i64 tn, .string tx, .int .i64 tt], .int .i64 0]) (by simp [results, Try.results29, go_sem, c10, c11, c12, c13]) rfl ⟨rfl, ?_⟩
  have K2 := K1.out
  repeat (first | exact Below.refl _ _ | assumption | refine Below.alloc ?_ (by simp <;> omega) _ | refine Below.setCell ?_ (by simp <;> omega) _)
theorem ordd_else (o : List UInt8) (h0 : o ≠ [61]) (h1 : o ≠ [35]) (h2 : o ≠ [60]) (h3 : o ≠ [60, 61]) (h4 : o ≠ [62]) (h5 : o ≠ [62, 61]) (x y : Int) (w : World) : Calls Try.prog 31 #[.string ⟨o.toArray⟩, .int .i64 x, .int .i64 y] w (AnsD (zV, 100) w) := by
  have e0 : (o == ([61] : List UInt8)) = false := beq_eq_false_iff_ne.2 h0
  have e1 : (o == ([35] : List UInt8)) = false := beq_eq_false_iff_ne.2 h1
  have e2 : (o == ([60] : List UInt8)) = false := beq_eq_false_iff_ne.2 h2
  have e3 : (o == ([60, 61] : List UInt8)) = false := beq_eq_false_iff_ne.2 h3
  have e4 : (o == ([62] : List UInt8)) = false := beq_eq_false_iff_ne.2 h4
  have e5 : (o == ([62, 61] : List UInt8)) = false := beq_eq_false_iff_ne.2 h5
  clear h0 h1 h2 h3 h4 h5
  go_enter Try.func31, Try.ntmps31
  go_wp2_with fail
  refine bodyPost_ret (v := .tuple #[.agg #[.int .i64 0, .int .i64 0, .string ⟨#[]⟩, .int .i64 0], .int .i64 100]) (by simp [results, Try.results31, go_sem]) rfl ⟨rfl, ?_⟩
  repeat (first | exact Below.refl _ _ | assumption | refine Below.alloc ?_ (by simp <;> omega) _ | refine Below.setCell ?_ (by simp <;> omega) _)
theorem setd_0 (x y : Int) (hx : w16 x) (hy : w16 y) (w : World) : Calls Try.prog 29 #[.string ⟨#[43]⟩, .int .i64 x, .int .i64 y] w (AnsD (⟨4, orN x y, nilS, 0⟩, 0) w) := by
  obtain ⟨z, hz⟩ : ∃ z, orN x y = z := ⟨_, rfl⟩
  have h1 : bits .or .i64 x y = z := (or64 hx hy).trans hz
  rw [hz]
  clear hz hx hy
  go_enter Try.func29, Try.ntmps29
  go_wp2_with fail
  refine bodyPost_ret (v := .tuple #[.agg #[.int .i64 4, .int .i64 z, .string ⟨#[]⟩, .int .i64 0], .int .i64 0]) (by simp [results, Try.results29, go_sem]) rfl ⟨rfl, ?_⟩
  repeat (first | exact Below.refl _ _ | assumption | refine Below.alloc ?_ (by simp <;> omega) _ | refine Below.setCell ?_ (by simp <;> omega) _)
theorem setd_1 (x y : Int) (hx : w16 x) (hy : w16 y) (w : World) : Calls Try.prog 29 #[.string ⟨#[45]⟩, .int .i64 x, .int .i64 y] w (AnsD (⟨4, offN x y, nilS, 0⟩, 0) w) := by
  obtain ⟨z, hz⟩ : ∃ z, offN x y = z := ⟨_, rfl⟩
  have h1 : bits .andNot .i64 x y = z := (off64 hx hy).trans hz
  rw [hz]
  clear hz hx hy
  go_enter Try.func29, Try.ntmps29
  go_wp2_with fail
  refine bodyPost_ret (v := .tuple #[.agg #[.int .i64 4, .int .i64 z, .string ⟨#[]⟩, .int .i64 0], .int .i64 0]) (by simp [results, Try.results29, go_sem]) rfl ⟨rfl, ?_⟩
  repeat (first | exact Below.refl _ _ | assumption | refine Below.alloc ?_ (by simp <;> omega) _ | refine Below.setCell ?_ (by simp <;> omega) _)
theorem setd_2 (x y : Int) (hx : w16 x) (hy : w16 y) (w : World) : Calls Try.prog 29 #[.string ⟨#[42]⟩, .int .i64 x, .int .i64 y] w (AnsD (⟨4, andN x y, nilS, 0⟩, 0) w) := by
  obtain ⟨z, hz⟩ : ∃ z, andN x y = z := ⟨_, rfl⟩
  have h1 : bits .and .i64 x y = z := (and64 hx hy).trans hz
  rw [hz]
  clear hz hx hy
  go_enter Try.func29, Try.ntmps29
  go_wp2_with fail
  refine bodyPost_ret (v := .tuple #[.agg #[.int .i64 4, .int .i64 z, .string ⟨#[]⟩, .int .i64 0], .int .i64 0]) (by simp [results, Try.results29, go_sem]) rfl ⟨rfl, ?_⟩
  repeat (first | exact Below.refl _ _ | assumption | refine Below.alloc ?_ (by simp <;> omega) _ | refine Below.setCell ?_ (by simp <;> omega) _)
theorem setd_3 (x y : Int) (hx : w16 x) (hy : w16 y) (w : World) : Calls Try.prog 29 #[.string ⟨#[47]⟩, .int .i64 x, .int .i64 y] w (AnsD (⟨4, xorN x y, nilS, 0⟩, 0) w) := by
  obtain ⟨z, hz⟩ : ∃ z, xorN x y = z := ⟨_, rfl⟩
  have h1 : bits .xor .i64 x y = z := (xor64 hx hy).trans hz
  rw [hz]
  clear hz hx hy
  go_enter Try.func29, Try.ntmps29
  go_wp2_with fail
  refine bodyPost_ret (v := .tuple #[.agg #[.int .i64 4, .int .i64 z, .string ⟨#[]⟩, .int .i64 0], .int .i64 0]) (by simp [results, Try.results29, go_sem]) rfl ⟨rfl, ?_⟩
  repeat (first | exact Below.refl _ _ | assumption | refine Below.alloc ?_ (by simp <;> omega) _ | refine Below.setCell ?_ (by simp <;> omega) _)
theorem setd_p0 (x y : Int) (hx : w16 x) (hy : w16 y) (w : World) : Calls Try.prog 29 #[.string ⟨#[60, 61]⟩, .int .i64 x, .int .i64 y] w (AnsD (truD (offN x y == 0), 0) w) := by
  have HT := truth_d (offN x y == 0)
  have H0 := Four.new w (.int .i64 0) (.int .i64 0) (.string ⟨#[]⟩) (.int .i64 0) 29
  obtain ⟨c, hc⟩ : ∃ c, (offN x y == 0) = c := ⟨_, rfl⟩
  rw [hc] at HT ⊢
  obtain ⟨z, hz⟩ : ∃ z, offN x y = z := ⟨_, rfl⟩
  rw [hz] at hc
  have h1 : bits .andNot .i64 x y = z := (off64 hx hy).trans hz
  clear hz hx hy
  obtain ⟨t, ht⟩ : ∃ t, truD c = t := ⟨_, rfl⟩
  rw [ht] at HT ⊢
  obtain ⟨ts, tn, tx, tt⟩ := t
  unfold LV.val at HT
  clear ht
  go_enter Try.func29, Try.ntmps29
  go_wp2_with fail
  refine (HT _).mono ?_
  rintro e w1 ⟨rfl, k1⟩
  have H1 := H0.on k1
  have c1 := H1.c
  obtain ⟨c10, c11, c12, c13⟩ := c1
  have f0 := H1.f 0
  have f1 := H1.f 1
  have f2 := H1.f 2
  have f3 := H1.f 3
  have hs := k1.size
  simp only [World.size_alloc] at hs
  have K1 := Lib.hid (show Bl w w1 from ((Below.refl _ _).alloc (Nat.le_refl _) _).trans (k1.mono (by simp)))
  go_wp2_with fail
  refine bodyPost_ret (v := .tuple #[.agg #[.int .i64 ts, .int .i64 tn, .string tx, .int .i64 tt], .int .i64 0]) (by simp [results, Try.results29, go_sem, c10, c11, c12, c13]) rfl ⟨rfl, ?_⟩
  have K2 := K1.out
  repeat (first | exact Below.refl _ _ | assumption | refine Below.alloc ?_ (by simp <;> omega) _ | refine Below.setCell ?_ (by simp <;> omega) _)
theorem setd_p1 (x y : Int) (hx : w16 x) (hy : w16 y) (w : World) : Calls Try.prog 29 #[.string ⟨#[62, 61]⟩, .int .i64 x, .int .i64 y] w (AnsD (truD (offN y x == 0), 0) w) := by
  have HT := truth_d (offN y x == 0)
  have H0 := Four.new w (.int .i64 0) (.int .i64 0) (.string ⟨#[]⟩) (.int .i64 0) 29
  obtain ⟨c, hc⟩ : ∃ c, (offN y x == 0) = c := ⟨_, rfl⟩
  rw [hc] at HT ⊢
  obtain ⟨z, hz⟩ : ∃ z, offN y x = z := ⟨_, rfl⟩
  rw [hz] at hc
  have h1 : bits .andNot .i64 y x = z := (off64 hy hx).trans hz
  clear hz hx hy
  obtain ⟨t, ht⟩ : ∃ t, truD c = t := ⟨_, rfl⟩
  rw [ht] at HT ⊢
  obtain ⟨ts, tn, tx, tt⟩ := t
  unfold LV.val at HT
  clear ht
  go_enter Try.func29, Try.ntmps29
  go_wp2_with fail
  refine (HT _).mono ?_
  rintro e w1 ⟨rfl, k1⟩
  have H1 := H0.on k1
  have c1 := H1.c
  obtain ⟨c10, c11, c12, c13⟩ := c1
  have f0 := H1.f 0
  have f1 := H1.f 1
  have f2 := H1.f 2
  have f3 := H1.f 3
  have hs := k1.size
  simp only [World.size_alloc] at hs
  have K1 := Lib.hid (show Bl w w1 from ((Below.refl _ _).alloc (Nat.le_refl _) _).trans (k1.mono (by simp)))
  go_wp2_with fail
  refine bodyPost_ret (v := .tuple #[.agg #[.int .i64 ts, .int .i64 tn, .string tx, .int .i64 tt], .int .i64 0]) (by simp [results, Try.results29, go_sem, c10, c11, c12, c13]) rfl ⟨rfl, ?_⟩
  have K2 := K1.out
  repeat (first | exact Below.refl _ _ | assumption | refine Below.alloc ?_ (by simp <;> omega) _ | refine Below.setCell ?_ (by simp <;> omega) _)
theorem setd_else (o : List UInt8) (h0 : o ≠ [43]) (h1 : o ≠ [45]) (h2 : o ≠ [42]) (h3 : o ≠ [47]) (h4 : o ≠ [60, 61]) (h5 : o ≠ [62, 61]) (h6 : o ≠ [61]) (h7 : o ≠ [35]) (x y : Int) (w : World) : Calls Try.prog 29 #[.string ⟨o.toArray⟩, .int .i64 x, .int .i64 y] w (AnsD (zV, 100) w) := by
  have e0 : (o == ([43] : List UInt8)) = false := beq_eq_false_iff_ne.2 h0
  have e1 : (o == ([45] : List UInt8)) = false := beq_eq_false_iff_ne.2 h1
  have e2 : (o == ([42] : List UInt8)) = false := beq_eq_false_iff_ne.2 h2
  have e3 : (o == ([47] : List UInt8)) = false := beq_eq_false_iff_ne.2 h3
  have e4 : (o == ([60, 61] : List UInt8)) = false := beq_eq_false_iff_ne.2 h4
  have e5 : (o == ([62, 61] : List UInt8)) = false := beq_eq_false_iff_ne.2 h5
  have e6 : (o == ([61] : List UInt8)) = false := beq_eq_false_iff_ne.2 h6
  have e7 : (o == ([35] : List UInt8)) = false := beq_eq_false_iff_ne.2 h7
  clear h0 h1 h2 h3 h4 h5 h6 h7
  go_enter Try.func29, Try.ntmps29
  go_wp2_with fail
  refine bodyPost_ret (v := .tuple #[.agg #[.int .i64 0, .int .i64 0, .string ⟨#[]⟩, .int .i64 0], .int .i64 100]) (by simp [results, Try.results29, go_sem]) rfl ⟨rfl, ?_⟩
  repeat (first | exact Below.refl _ _ | assumption | refine Below.alloc ?_ (by simp <;> omega) _ | refine Below.setCell ?_ (by simp <;> omega) _)
theorem whsd_0 (x y : Int) (hx : inW x = true) (hy : inW y = true) (w : World) : Calls Try.prog 30 #[.string ⟨#[43]⟩, .int .i64 x, .int .i64 y] w (AnsD (wholeD (x + y)) w) := by
  have H0 := Four.new w (.int .i64 0) (.int .i64 0) (.string ⟨#[]⟩) (.int .i64 0) 29
  obtain ⟨z, hz⟩ : ∃ z, x + y = z := ⟨_, rfl⟩
  have b1 := inW_bd hx
  have b2 := inW_bd hy
  have b3 := mul_bd b1 b2
  have hw : wrap64 (x + y) = z := by rw [IntWalk.wrap64_in _ (by omega), hz]
  clear b1 b2 b3
  rw [hz]
  have HT := whole_d z
  obtain ⟨p, hp⟩ : ∃ p, wholeD z = p := ⟨_, rfl⟩
  rw [hp] at HT ⊢
  obtain ⟨⟨ts, tn, tx, tt⟩, er⟩ := p
  unfold AnsD LV.val at HT
  simp only at HT
  clear hp hz hx hy
  go_enter Try.func30, Try.ntmps30
  go_wp2_with fail
  refine (HT _).mono ?_
  rintro e w1 ⟨rfl, k1⟩
  have H1 := H0.on k1
  have c1 := H1.c
  obtain ⟨c10, c11, c12, c13⟩ := c1
  have f0 := H1.f 0
  have f1 := H1.f 1
  have f2 := H1.f 2
  have f3 := H1.f 3
  have hs := k1.size
  simp only [World.size_alloc] at hs
  have K1 := Lib.hid (show Bl w w1 from ((Below.refl _ _).alloc (Nat.le_refl _) _).trans (k1.mono (by simp)))
  go_wp2_with fail
  refine bodyPost_ret (v := .tuple #[.agg #[.int .i64 ts, .int .i64 tn, .string tx, .int .i64 tt], .int .i64 er]) (by simp [results, Try.results30, go_sem, c10, c11, c12, c13]) rfl ⟨rfl, ?_⟩
  have K2 := K1.out
  repeat (first | exact Below.refl _ _ | assumption | refine Below.alloc ?_ (by simp <;> omega) _ | refine Below.setCell ?_ (by simp <;> omega) _)
theorem whsd_1 (x y : Int) (hx : inW x = true) (hy : inW y = true) (w : World) : Calls Try.prog 30 #[.string ⟨#[45]⟩, .int .i64 x, .int .i64 y] w (AnsD (wholeD (x - y)) w) := by
  have H0 := Four.new w (.int .i64 0) (.int .i64 0) (.string ⟨#[]⟩) (.int .i64 0) 29
  obtain ⟨z, hz⟩ : ∃ z, x - y = z := ⟨_, rfl⟩
  have b1 := inW_bd hx
  have b2 := inW_bd hy
  have b3 := mul_bd b1 b2
  have hw : wrap64 (x - y) = z := by rw [IntWalk.wrap64_in _ (by omega), hz]
  clear b1 b2 b3
  rw [hz]
  have HT := whole_d z
  obtain ⟨p, hp⟩ : ∃ p, wholeD z = p := ⟨_, rfl⟩
  rw [hp] at HT ⊢
  obtain ⟨⟨ts, tn, tx, tt⟩, er⟩ := p
  unfold AnsD LV.val at HT
  simp only at HT
  clear hp hz hx hy
  go_enter Try.func30, Try.ntmps30
  go_wp2_with fail
  refine (HT _).mono ?_
  rintro e w1 ⟨rfl, k1⟩
  have H1 := H0.on k1
  have c1 := H1.c
  obtain ⟨c10, c11, c12, c13⟩ := c1
  have f0 := H1.f 0
  have f1 := H1.f 1
  have f2 := H1.f 2
  have f3 := H1.f 3
  have hs := k1.size
  simp only [World.size_alloc] at hs
  have K1 := Lib.hid (show Bl w w1 from ((Below.refl _ _).alloc (Nat.le_refl _) _).trans (k1.mono (by simp)))
  go_wp2_with fail
  refine bodyPost_ret (v := .tuple #[.agg #[.int .i64 ts, .int .i64 tn, .string tx, .int .i64 tt], .int .i64 er]) (by simp [results, Try.results30, go_sem, c10, c11, c12, c13]) rfl ⟨rfl, ?_⟩
  have K2 := K1.out
  repeat (first | exact Below.refl _ _ | assumption | refine Below.alloc ?_ (by simp <;> omega) _ | refine Below.setCell ?_ (by simp <;> omega) _)
theorem whsd_2 (x y : Int) (hx : inW x = true) (hy : inW y = true) (w : World) : Calls Try.prog 30 #[.string ⟨#[42]⟩, .int .i64 x, .int .i64 y] w (AnsD (wholeD (x * y)) w) := by
  have H0 := Four.new w (.int .i64 0) (.int .i64 0) (.string ⟨#[]⟩) (.int .i64 0) 29
  obtain ⟨z, hz⟩ : ∃ z, x * y = z := ⟨_, rfl⟩
  have b1 := inW_bd hx
  have b2 := inW_bd hy
  have b3 := mul_bd b1 b2
  have hw : wrap64 (x * y) = z := by rw [IntWalk.wrap64_in _ (by omega), hz]
  clear b1 b2 b3
  rw [hz]
  have HT := whole_d z
  obtain ⟨p, hp⟩ : ∃ p, wholeD z = p := ⟨_, rfl⟩
  rw [hp] at HT ⊢
  obtain ⟨⟨ts, tn, tx, tt⟩, er⟩ := p
  unfold AnsD LV.val at HT
  simp only at HT
  clear hp hz hx hy
  go_enter Try.func30, Try.ntmps30
  go_wp2_with fail
  refine (HT _).mono ?_
  rintro e w1 ⟨rfl, k1⟩
  have H1 := H0.on k1
  have c1 := H1.c
  obtain ⟨c10, c11, c12, c13⟩ := c1
  have f0 := H1.f 0
  have f1 := H1.f 1
  have f2 := H1.f 2
  have f3 := H1.f 3
  have hs := k1.size
  simp only [World.size_alloc] at hs
  have K1 := Lib.hid (show Bl w w1 from ((Below.refl _ _).alloc (Nat.le_refl _) _).trans (k1.mono (by simp)))
  go_wp2_with fail
  refine bodyPost_ret (v := .tuple #[.agg #[.int .i64 ts, .int .i64 tn, .string tx, .int .i64 tt], .int .i64 er]) (by simp [results, Try.results30, go_sem, c10, c11, c12, c13]) rfl ⟨rfl, ?_⟩
  have K2 := K1.out
  repeat (first | exact Below.refl _ _ | assumption | refine Below.alloc ?_ (by simp <;> omega) _ | refine Below.setCell ?_ (by simp <;> omega) _)
theorem whsd_div0 (x y : Int) (hx : inW x = true) (hy : inW y = true) (hy0 : y = 0) (w : World) : Calls Try.prog 30 #[.string ⟨#[68, 73, 86]⟩, .int .i64 x, .int .i64 y] w (AnsD (zV, 102) w) := by
  subst hy0
  clear hx hy
  go_enter Try.func30, Try.ntmps30
  go_wp2_with fail
  refine bodyPost_ret (v := .tuple #[.agg #[.int .i64 0, .int .i64 0, .string ⟨#[]⟩, .int .i64 0], .int .i64 102]) (by simp [results, Try.results30, go_sem]) rfl ⟨rfl, ?_⟩
  repeat (first | exact Below.refl _ _ | assumption | refine Below.alloc ?_ (by simp <;> omega) _ | refine Below.setCell ?_ (by simp <;> omega) _)
theorem whsd_div (x y : Int) (hx : inW x = true) (hy : inW y = true) (hy0 : ¬ y = 0) (w : World) : Calls Try.prog 30 #[.string ⟨#[68, 73, 86]⟩, .int .i64 x, .int .i64 y] w (AnsD (wholeD (x.tdiv y)) w) := by
  have H0 := Four.new w (.int .i64 0) (.int .i64 0) (.string ⟨#[]⟩) (.int .i64 0) 29
  obtain ⟨z, hz⟩ : ∃ z, x.tdiv y = z := ⟨_, rfl⟩
  have hyn : (y == 0) = false := beq_eq_false_iff_ne.2 hy0
  have b1 := inW_bd hx
  have b3 := tdiv_bd (y := y) b1
  have hw : wrap64 (x.tdiv y) = z := by rw [IntWalk.wrap64_in _ (by omega), hz]
  have HY0 := hy0
  clear b1 b3
  rw [hz]
  have HT := whole_d z
  obtain ⟨p, hp⟩ : ∃ p, wholeD z = p := ⟨_, rfl⟩
  rw [hp] at HT ⊢
  obtain ⟨⟨ts, tn, tx, tt⟩, er⟩ := p
  unfold AnsD LV.val at HT
  simp only at HT
  clear hp hz hx hy
  go_enter Try.func30, Try.ntmps30
  go_wp2_with fail
  refine (HT _).mono ?_
  rintro e w1 ⟨rfl, k1⟩
  have H1 := H0.on k1
  have c1 := H1.c
  obtain ⟨c10, c11, c12, c13⟩ := c1
  have f0 := H1.f 0
  have f1 := H1.f 1
  have f2 := H1.f 2
  have f3 := H1.f 3
  have hs := k1.size
  simp only [World.size_alloc] at hs
  have K1 := Lib.hid (show Bl w w1 from ((Below.refl _ _).alloc (Nat.le_refl _) _).trans (k1.mono (by simp)))
  go_wp2_with fail
  refine bodyPost_ret (v := .tuple #[.agg #[.int .i64 ts, .int .i64 tn, .string tx, .int .i64 tt], .int .i64 er]) (by simp [results, Try.results30, go_sem, c10, c11, c12, c13]) rfl ⟨rfl, ?_⟩
  have K2 := K1.out
  repeat (first | exact Below.refl _ _ | assumption | refine Below.alloc ?_ (by simp <;> omega) _ | refine Below.setCell ?_ (by simp <;> omega) _)
theorem whsd_mod0 (x y : Int) (hx : inW x = true) (hy : inW y = true) (hy0 : y = 0) (w : World) : Calls Try.prog 30 #[.string ⟨#[77, 79, 68]⟩, .int .i64 x, .int .i64 y] w (AnsD (zV, 102) w) := by
  subst hy0
  clear hx hy
  go_enter Try.func30, Try.ntmps30
  go_wp2_with fail
  refine bodyPost_ret (v := .tuple #[.agg #[.int .i64 0, .int .i64 0, .string ⟨#[]⟩, .int .i64 0], .int .i64 102]) (by simp [results, Try.results30, go_sem]) rfl ⟨rfl, ?_⟩
  repeat (first | exact Below.refl _ _ | assumption | refine Below.alloc ?_ (by simp <;> omega) _ | refine Below.setCell ?_ (by simp <;> omega) _)
theorem whsd_mod (x y : Int) (hx : inW x = true) (hy : inW y = true) (hy0 : ¬ y = 0) (w : World) : Calls Try.prog 30 #[.string ⟨#[77, 79, 68]⟩, .int .i64 x, .int .i64 y] w (AnsD (wholeD (x.tmod y)) w) := by
  have H0 := Four.new w (.int .i64 0) (.int .i64 0) (.string ⟨#[]⟩) (.int .i64 0) 29
  obtain ⟨z, hz⟩ : ∃ z, x.tmod y = z := ⟨_, rfl⟩
  have hyn : (y == 0) = false := beq_eq_false_iff_ne.2 hy0
  have b1 := inW_bd hx
  have b3 := tmod_bd (y := y) b1
  have hw : x.tmod y = z := hz
  clear b1 b3
  rw [hz]
  have HT := whole_d z
  obtain ⟨p, hp⟩ : ∃ p, wholeD z = p := ⟨_, rfl⟩
  rw [hp] at HT ⊢
  obtain ⟨⟨ts, tn, tx, tt⟩, er⟩ := p
  unfold AnsD LV.val at HT
  simp only at HT
  clear hp hz hx hy
  go_enter Try.func30, Try.ntmps30
  go_wp2_with fail
  refine (HT _).mono ?_
  rintro e w1 ⟨rfl, k1⟩
  have H1 := H0.on k1
  have c1 := H1.c
  obtain ⟨c10, c11, c12, c13⟩ := c1
  have f0 := H1.f 0
  have f1 := H1.f 1
  have f2 := H1.f 2
  have f3 := H1.f 3
  have hs := k1.size
  simp only [World.size_alloc] at hs
  have K1 := Lib.hid (show Bl w w1 from ((Below.refl _ _).alloc (Nat.le_refl _) _).trans (k1.mono (by simp)))
  go_wp2_with fail
  refine bodyPost_ret (v := .tuple #[.agg #[.int .i64 ts, .int .i64 tn, .string tx, .int .i64 tt], .int .i64 er]) (by simp [results, Try.results30, go_sem, c10, c11, c12, c13]) rfl ⟨rfl, ?_⟩
  have K2 := K1.out
  repeat (first | exact Below.refl _ _ | assumption | refine Below.alloc ?_ (by simp <;> omega) _ | refine Below.setCell ?_ (by simp <;> omega) _)
theorem whsd_else (o : List UInt8) (h0 : o ≠ [43]) (h1 : o ≠ [45]) (h2 : o ≠ [42]) (h3 : o ≠ [68, 73, 86]) (h4 : o ≠ [77, 79, 68]) (x y : Int) (w : World) : Calls Try.prog 30 #[.string ⟨o.toArray⟩, .int .i64 x, .int .i64 y] w (AnsD (zV, 100) w) := by
  have e0 : (o == ([43] : List UInt8)) = false := beq_eq_false_iff_ne.2 h0
  have e1 : (o == ([45] : List UInt8)) = false := beq_eq_false_iff_ne.2 h1
  have e2 : (o == ([42] : List UInt8)) = false := beq_eq_false_iff_ne.2 h2
  have e3 : (o == ([68, 73, 86] : List UInt8)) = false := beq_eq_false_iff_ne.2 h3
  have e4 : (o == ([77, 79, 68] : List UInt8)) = false := beq_eq_false_iff_ne.2 h4
  clear h0 h1 h2 h3 h4
  go_enter Try.func30, Try.ntmps30
  go_wp2_with fail
  refine bodyPost_ret (v := .tuple #[.agg #[.int .i64 0, .int .i64 0, .string ⟨#[]⟩, .int .i64 0], .int .i64 100]) (by simp [results, Try.results30, go_sem]) rfl ⟨rfl, ?_⟩
  repeat (first | exact Below.refl _ _ | assumption | refine Below.alloc ?_ (by simp <;> omega) _ | refine Below.setCell ?_ (by simp <;> omega) _)
def ordersD (o : List UInt8) (x y : Int) : LV × Int :=
  if o = [61] then (truD (x == y), 0)
  else if o = [35] then (truD (x != y), 0)
  else if o = [60] then (truD (decide (x < y)), 0)
  else if o = [60, 61] then (truD (decide (x ≤ y)), 0)
  else if o = [62] then (truD (decide (y < x)), 0)
  else if o = [62, 61] then (truD (decide (y ≤ x)), 0)
  else (zV, 100)
def setsD (o : List UInt8) (x y : Int) : LV × Int :=
  if o = [43] then (⟨4, orN x y, nilS, 0⟩, 0)
  else if o = [45] then (⟨4, offN x y, nilS, 0⟩, 0)
  else if o = [42] then (⟨4, andN x y, nilS, 0⟩, 0)
  else if o = [47] then (⟨4, xorN x y, nilS, 0⟩, 0)
  else if o = [60, 61] then (truD (offN x y == 0), 0)
  else if o = [62, 61] then (truD (offN y x == 0), 0)
  else if o = [61] then (truD (x == y), 0)
  else if o = [35] then (truD (x != y), 0)
  else (zV, 100)
def wholesD (o : List UInt8) (x y : Int) : LV × Int :=
  if o = [43] then wholeD (x + y)
  else if o = [45] then wholeD (x - y)
  else if o = [42] then wholeD (x * y)
  else if o = [68, 73, 86] then (if y = 0 then (zV, 102) else wholeD (x.tdiv y))
  else if o = [77, 79, 68] then (if y = 0 then (zV, 102) else wholeD (x.tmod y))
  else (zV, 100)
theorem ordersd_any (o : List UInt8) (x y : Int)  (w : World) : Calls Try.prog 31 #[.string ⟨o.toArray⟩, .int .i64 x, .int .i64 y] w (AnsD (ordersD o x y) w) := by
  by_cases h0 : o = [61]
  · subst h0; exact ordd_0 x y w
  by_cases h1 : o = [35]
  · subst h1; exact ordd_1 x y w
  by_cases h2 : o = [60]
  · subst h2; exact ordd_2 x y w
  by_cases h3 : o = [60, 61]
  · subst h3; exact ordd_3 x y w
  by_cases h4 : o = [62]
  · subst h4; exact ordd_4 x y w
  by_cases h5 : o = [62, 61]
  · subst h5; exact ordd_5 x y w
  · rw [show ordersD o x y = (zV, 100) from by unfold ordersD; rw [if_neg h0, if_neg h1, if_neg h2, if_neg h3, if_neg h4, if_neg h5]]; exact ordd_else o h0 h1 h2 h3 h4 h5 x y w
theorem setsd_any (o : List UInt8) (x y : Int) (hx : w16 x) (hy : w16 y) (w : World) : Calls Try.prog 29 #[.string ⟨o.toArray⟩, .int .i64 x, .int .i64 y] w (AnsD (setsD o x y) w) := by
  by_cases h0 : o = [43]
  · subst h0; exact setd_0 x y hx hy w
  by_cases h1 : o = [45]
  · subst h1; exact setd_1 x y hx hy w
  by_cases h2 : o = [42]
  · subst h2; exact setd_2 x y hx hy w
  by_cases h3 : o = [47]
  · subst h3; exact setd_3 x y hx hy w
  by_cases h4 : o = [60, 61]
  · subst h4; exact setd_p0 x y hx hy w
  by_cases h5 : o = [62, 61]
  · subst h5; exact setd_p1 x y hx hy w
  by_cases h6 : o = [61]
  · subst h6; exact setd_q0 x y w
  by_cases h7 : o = [35]
  · subst h7; exact setd_q1 x y w
  · rw [show setsD o x y = (zV, 100) from by unfold setsD; rw [if_neg h0, if_neg h1, if_neg h2, if_neg h3, if_neg h4, if_neg h5, if_neg h6, if_neg h7]]; exact setd_else o h0 h1 h2 h3 h4 h5 h6 h7 x y w
theorem wholesd_any (o : List UInt8) (x y : Int) (hx : inW x = true) (hy : inW y = true) (w : World) : Calls Try.prog 30 #[.string ⟨o.toArray⟩, .int .i64 x, .int .i64 y] w (AnsD (wholesD o x y) w) := by
  by_cases h0 : o = [43]
  · subst h0; exact whsd_0 x y hx hy w
  by_cases h1 : o = [45]
  · subst h1; exact whsd_1 x y hx hy w
  by_cases h2 : o = [42]
  · subst h2; exact whsd_2 x y hx hy w
  by_cases h3 : o = [68, 73, 86]
  · subst h3; by_cases hy0 : y = 0; (rw [show wholesD [68, 73, 86] x y = (zV, 102) from if_pos hy0]; exact whsd_div0 x y hx hy hy0 w); (rw [show wholesD [68, 73, 86] x y = wholeD (x.tdiv y) from if_neg hy0]; exact whsd_div x y hx hy hy0 w)
  by_cases h4 : o = [77, 79, 68]
  · subst h4; by_cases hy0 : y = 0; (rw [show wholesD [77, 79, 68] x y = (zV, 102) from if_pos hy0]; exact whsd_mod0 x y hx hy hy0 w); (rw [show wholesD [77, 79, 68] x y = wholeD (x.tmod y) from if_neg hy0]; exact whsd_mod x y hx hy hy0 w)
  · rw [show wholesD o x y = (zV, 100) from by unfold wholesD; rw [if_neg h0, if_neg h1, if_neg h2, if_neg h3, if_neg h4]]; exact whsd_else o h0 h1 h2 h3 h4 x y w
end Go.Proofs.Ytpnohljhpoildaa
