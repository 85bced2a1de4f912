/- The document of layer 10: letters, numbers. -/
import Derived.Test.YtpnohljhpoildaaKnL
namespace Go.Proofs.Ytpnohljhpoildaa
open Go.RowKit
set_option maxHeartbeats 4000000
set_option maxRecDepth 100000
set_option linter.unusedVariables false
set_option linter.unusedSimpArgs false

/-- A struct of four in a variable. -/
def Four (w : World) (b : Nat) (u v x y : Value) (t : TypeId) : Prop := w.heap[b]? = some (.cells #[u, v, x, y] t)
theorem Four.on {w w' : World} {b : Nat} {u v x y : Value} {t : TypeId} (h : Four w b u v x y t) (k : Bl w w') : Four w' b u v x y t := (k.block b (lt_at h)).trans h
theorem Four.new (w : World) (u v x y : Value) (t : TypeId) : Four (w.alloc (.cells #[u, v, x, y] t)) w.heap.size u v x y t := by
  show (w.heap.push _)[w.heap.size]? = _
  simp
theorem Four.c {w : World} {b : Nat} {u v x y : Value} {t : TypeId} (h : Four w b u v x y t) : w.cell? ⟨b, 0, none⟩ = some u ∧ w.cell? ⟨b, 1, none⟩ = some v ∧ w.cell? ⟨b, 2, none⟩ = some x ∧ w.cell? ⟨b, 3, none⟩ = some y := by
  unfold Four at h
  refine ⟨?_, ?_, ?_, ?_⟩ <;> simp [World.cell?, h]
theorem Four.f {w : World} {b : Nat} {u v x y : Value} {t : TypeId} (h : Four w b u v x y t) (k : Nat) : w.frozen? ⟨b, k, none⟩ = false := by
  unfold Four at h
  simp [World.frozen?, h]
def letD (x : LV) : LV := if x.s = 5 ∧ x.x.size = 1 then ⟨2, let1 x.x, nilS, 0⟩ else x
def zV : LV := ⟨0, 0, nilS, 0⟩
theorem letd_any (x : LV) (w : World) : Calls Try.prog 28 #[x.val] w fun e w' => e = .returned (letD x).val ∧ Bl w w' := by
  obtain ⟨s, n, x, t⟩ := x
  by_cases h5 : s = 5
  · by_cases h1 : x.size = 1
    · have hb : ∃ c, x.data = #[c] := by
        obtain ⟨d⟩ := x
        have h : d.size = 1 := h1
        refine ⟨d[0], ?_⟩
        apply Array.ext
        · simp [h]
        · intro i p q
          obtain rfl : i = 0 := by simp at q; omega
          rfl
      obtain ⟨c, hc⟩ := hb
      obtain ⟨d⟩ := x
      simp only at hc
      subst hc h5
      have hl : letD ⟨5, n, ⟨#[c]⟩, t⟩ = ⟨2, (c.toNat : Int), nilS, 0⟩ := rfl
      have hlt : (c.toNat : Int) ≤ 255 := by have := c.toNat_lt; omega
      have hw : wrap64 (c.toNat : Int) = (c.toNat : Int) := by unfold wrap64; omega
      obtain ⟨z, hz⟩ : ∃ z, (c.toNat : Int) = z := ⟨_, rfl⟩
      rw [hl]
      unfold LV.val
      simp only
      clear hl h1 hlt
      go_enter Try.func28, Try.ntmps28
      go_wp2_with fail
      refine bodyPost_ret (v := .agg #[.int .i64 2, .int .i64 (c.toNat : Int), .string ⟨#[]⟩, .int .i64 0]) (by simp [results, Try.results28, go_sem]; try exact hw) rfl ⟨rfl, ?_⟩
      repeat (first | exact Below.refl _ _ | assumption | refine Below.alloc ?_ (by simp <;> omega) _ | refine Below.setCell ?_ (by simp <;> omega) _)
    · have hl : letD ⟨s, n, x, t⟩ = ⟨s, n, x, t⟩ := if_neg (fun h => h1 h.2)
      have hn : ((x.size : Int) == 1) = false := by rw [beq_eq_false_iff_ne]; omega
      subst h5
      rw [hl]
      unfold LV.val
      simp only
      clear hl h1
      go_enter Try.func28, Try.ntmps28
      go_wp2_with fail
      refine bodyPost_ret (v := .agg #[.int .i64 5, .int .i64 n, .string x, .int .i64 t]) (by simp [results, Try.results28, go_sem]) rfl ⟨rfl, ?_⟩
      repeat (first | exact Below.refl _ _ | assumption | refine Below.alloc ?_ (by simp <;> omega) _ | refine Below.setCell ?_ (by simp <;> omega) _)
  · have hl : letD ⟨s, n, x, t⟩ = ⟨s, n, x, t⟩ := if_neg (fun h => h5 h.1)
    have hn : (s == 5) = false := by rw [beq_eq_false_iff_ne]; exact h5
    rw [hl]
    unfold LV.val
    simp only
    clear hl h5
    go_enter Try.func28, Try.ntmps28
    go_wp2_with fail
    refine bodyPost_ret (v := .agg #[.int .i64 s, .int .i64 n, .string x, .int .i64 t]) (by simp [results, Try.results28, go_sem]) rfl ⟨rfl, ?_⟩
    repeat (first | exact Below.refl _ _ | assumption | refine Below.alloc ?_ (by simp <;> omega) _ | refine Below.setCell ?_ (by simp <;> omega) _)
def hasD (x : LV) : Bool := (letD x).s == 1 || (letD x).s == 2 || (letD x).s == 3 || (letD x).s == 6
def numD (x : LV) : Int := if hasD x = true then (letD x).n else 0
theorem has_any (x : LV) (w : World) : Calls Try.prog 25 #[x.val] w fun e w' => e = .returned (.bool (hasD x)) ∧ Bl w w' := by
  have HL := letd_any x
  obtain ⟨r, hr⟩ : ∃ r, hasD x = r := ⟨_, rfl⟩
  have HR := Lib.hid hr
  unfold hasD at hr
  rw [HR.out]
  obtain ⟨y, hy⟩ : ∃ y, letD x = y := ⟨_, rfl⟩
  rw [hy] at HL hr
  clear hy HR
  obtain ⟨s, n, x, t⟩ := x
  obtain ⟨s2, n2, x2, t2⟩ := y
  unfold LV.val at *
  simp only at hr
  have H0 := Four.new w (.int .i64 s) (.int .i64 n) (.string x) (.int .i64 t) 29
  have hc : ((s2 == 1) = true ∧ r = true) ∨ ((s2 == 1) = false ∧ (s2 == 2) = true ∧ r = true) ∨ ((s2 == 1) = false ∧ (s2 == 2) = false ∧ (s2 == 3) = true ∧ r = true) ∨ ((s2 == 1) = false ∧ (s2 == 2) = false ∧ (s2 == 3) = false ∧ (s2 == 6) = true ∧ r = true) ∨ ((s2 == 1) = false ∧ (s2 == 2) = false ∧ (s2 == 3) = false ∧ (s2 == 6) = false ∧ r = false) := by
    rw [← hr]
    cases (s2 == 1) <;> cases (s2 == 2) <;> cases (s2 == 3) <;> cases (s2 == 6) <;> simp
  clear hr
  rcases hc with ⟨h1, hr⟩ | ⟨h1, h2, hr⟩ | ⟨h1, h2, h3, hr⟩ | ⟨h1, h2, h3, h6, hr⟩ | ⟨h1, h2, h3, h6, hr⟩
  all_goals
    subst hr
    go_enter Try.func25, Try.ntmps25
    go_wp2_with fail
    refine (HL _).mono ?_
    rintro e w1 ⟨rfl, k1⟩
    have H1 := H0.on k1
    have c1 := H1.c
    obtain ⟨c10, c11, c12, c13⟩ := c1
    have f0 := H1.f 0
    have f1 := H1.f 1
    have f2 := H1.f 2
    have f3 := H1.f 3
    have hs := k1.size
    simp only [World.size_alloc] at hs
    have K1 := Lib.hid (show Bl w w1 from ((Below.refl _ _).alloc (Nat.le_refl _) _).trans (k1.mono (by simp)))
    go_wp2_with fail
    go_ret
    refine ⟨rfl, ?_⟩
    have K2 := K1.out
    repeat (first | exact Below.refl _ _ | assumption | refine Below.alloc ?_ (by simp <;> omega) _ | refine Below.setCell ?_ (by simp <;> omega) _)
end Go.Proofs.Ytpnohljhpoildaa
