/- The document of layer 10: which operators there are; numbers. -/
import Derived.Test.YtpnohljhpoildaaKnX
namespace Go.Proofs.Ytpnohljhpoildaa
open Go.RowKit
set_option maxHeartbeats 4000000
set_option maxRecDepth 100000
set_option linter.unusedVariables false
set_option linter.unusedSimpArgs false

theorem four_set {w : World} {b : Nat} {u v x y : Value} {t : TypeId} (h : Four w b u v x y t) (u' v' x' y' : Value) : Four ((((w.setCell ⟨b, 0, none⟩ u').setCell ⟨b, 1, none⟩ v').setCell ⟨b, 2, none⟩ x').setCell ⟨b, 3, none⟩ y') b u' v' x' y' t := by
  unfold Four at *
  simp [World.setCell, Array.getElem?_modify, h]
theorem four_far {w : World} {b c : Nat} {u v x y : Value} {t : TypeId} (h : Four w c u v x y t) (hne : c ≠ b) (u' v' x' y' : Value) : Four ((((w.setCell ⟨b, 0, none⟩ u').setCell ⟨b, 1, none⟩ v').setCell ⟨b, 2, none⟩ x').setCell ⟨b, 3, none⟩ y') c u v x y t := by
  unfold Four at *
  have h1 : ¬ b = c := fun e => hne e.symm
  simp [World.setCell, Array.getElem?_modify, h1, h]
theorem below_set {B : Nat} {w0 w : World} (h : Below B w0 w) {b : Nat} (hb : B ≤ b) (u' v' x' y' : Value) : Below B w0 ((((w.setCell ⟨b, 0, none⟩ u').setCell ⟨b, 1, none⟩ v').setCell ⟨b, 2, none⟩ x').setCell ⟨b, 3, none⟩ y') :=
  (((h.setCell hb _).setCell hb _).setCell hb _).setCell hb _
theorem ops_cell (w : World) (k : Nat) (h : k < 15) : ∃ x, opsL[k]? = some x ∧ (w.alloc (.cells (opsL.map fun x => Value.string ⟨x.toArray⟩).toArray 9)).cell? ⟨w.heap.size, k, none⟩ = some (.string ⟨x.toArray⟩) := by
  have hl : k < opsL.length := h
  refine ⟨opsL[k], List.getElem?_eq_getElem hl, ?_⟩
  rw [World.cell?_alloc_at _ _ _ _ rfl]
  simp [List.getElem?_map, List.getElem?_eq_getElem hl]
def opB (o : List UInt8) : Bool := opsL.contains o
theorem op_d (o : List UInt8) (w : World) : Calls Try.prog 24 #[.string ⟨o.toArray⟩] w fun e w' => e = .returned (.bool (opB o)) ∧ Bl w w' := by
  have HC := fun k hk => ops_cell w k hk
  have hb0 : Bl w (w.alloc (.cells (opsL.map fun x => Value.string ⟨x.toArray⟩).toArray 9)) := (Below.refl _ _).alloc (Nat.le_refl _) _
  obtain ⟨w1, hw⟩ : ∃ w1, w.alloc (.cells (opsL.map fun x => Value.string ⟨x.toArray⟩).toArray 9) = w1 := ⟨_, rfl⟩
  rw [hw] at HC hb0
  have HW := Lib.hid hw
  clear hw
  go_enter Try.func24, Try.ntmps24
  go_wp2_with fail
  rw [show (w.alloc (.cells #[.string ⟨#[43]⟩, .string ⟨#[45]⟩, .string ⟨#[42]⟩, .string ⟨#[47]⟩, .string ⟨#[68, 73, 86]⟩, .string ⟨#[77, 79, 68]⟩, .string ⟨#[65, 78, 68]⟩, .string ⟨#[79, 82]⟩, .string ⟨#[61]⟩, .string ⟨#[35]⟩, .string ⟨#[60]⟩, .string ⟨#[60, 61]⟩, .string ⟨#[62]⟩, .string ⟨#[62, 61]⟩, .string ⟨#[73, 78]⟩] 9)) = w1 from HW.out]
  go_loop [4] (fun i => ∃ k : Nat, k ≤ 15 ∧ i = .int .i64 k ∧ ∀ j, j < k → opsL[j]? ≠ some o)
    (fun i => 15 - (intOf i).toNat)
  case atStart => exact ⟨0, by omega, rfl, fun j hj => absurd hj (by omega)⟩
  case round =>
    obtain ⟨k, hk, rfl, hno⟩ := hrel
    have HN := Lib.hid hno
    clear hno
    by_cases hlt : k < 15
    · obtain ⟨x, hx, hcell⟩ := HC k hlt
      by_cases hxs : x = o
      · have HT : Hid (opB o = true) := Lib.hid (by
          refine List.contains_iff_mem.2 ?_
          rw [← hxs]
          exact List.mem_of_getElem? hx)
        subst hxs
        clear hx HC
        go_wp2_with fail
        go_ret
        exact ⟨by rw [HT.out]; rfl, hb0⟩
      · have ht : (x == o) = false := beq_eq_false_iff_ne.2 hxs
        have HK : Hid (∀ j, j < k + 1 → opsL[j]? ≠ some o) := Lib.hid (by
          intro j hj
          by_cases hjk : j = k
          · subst hjk; rw [hx]; intro e; injection e with e; exact hxs e
          · exact HN.out j (by omega))
        clear hxs hx HC
        go_wp2_with fail
        go_round
        case rel => exact ⟨k + 1, by omega, by simp, HK.out⟩
        case measure => simp [intOf]; omega
    · have hke : k = 15 := by omega
      subst hke
      have HT : Hid (opB o = false) := Lib.hid (by
        cases h : opB o
        · rfl
        · obtain ⟨j, hj⟩ := List.getElem?_of_mem (List.contains_iff_mem.1 h)
          have hl := (List.getElem?_eq_some_iff.1 hj).1
          exact absurd hj (HN.out j hl))
      go_wp2_with fail
      go_ret
      exact ⟨by rw [HT.out]; rfl, hb0⟩
theorem letD_idem (x : LV) : letD (letD x) = letD x := by
  by_cases h : x.s = 5 ∧ x.x.size = 1
  · rw [show letD x = ⟨2, let1 x.x, nilS, 0⟩ from if_pos h]; rfl
  · rw [show letD x = x from if_neg h, show letD x = x from if_neg h]
theorem number_d (x : LV) (w : World) : Calls Try.prog 26 #[x.val] w fun e w' => e = .returned (.int .i64 (numD x)) ∧ Bl w w' := by
  have HL := letd_any x
  have HH := has_any (letD x)
  have hh : hasD (letD x) = hasD x := by unfold hasD; rw [letD_idem]
  rw [hh] at HH
  obtain ⟨r, hr⟩ : ∃ r, hasD x = r := ⟨_, rfl⟩
  have HR : Hid (numD x = if r = true then (letD x).n else 0) := Lib.hid (by unfold numD; rw [hr])
  rw [hr] at HH
  obtain ⟨z, hz⟩ : ∃ z, numD x = z := ⟨_, rfl⟩
  rw [hz] at HR ⊢
  obtain ⟨y, hy⟩ : ∃ y, letD x = y := ⟨_, rfl⟩
  rw [hy] at HL HH HR
  clear hr hz hy hh
  obtain ⟨s, n, x, t⟩ := x
  obtain ⟨ys, yn, yx, yt⟩ := y
  unfold LV.val at *
  simp only at HR
  have H0 := Four.new w (.int .i64 s) (.int .i64 n) (.string x) (.int .i64 t) 29
  obtain ⟨p, hp⟩ : ∃ p, w.heap.size = p := ⟨_, rfl⟩
  have HP := Lib.hid hp
  go_enter Try.func26, Try.ntmps26
  go_wp2_with fail
  refine (HL _).mono ?_
  rintro e w1 ⟨rfl, k1⟩
  have H1 := H0.on k1
  have c1 := H1.c
  obtain ⟨c10, c11, c12, c13⟩ := c1
  have f0 := H1.f 0
  have f1 := H1.f 1
  have f2 := H1.f 2
  have f3 := H1.f 3
  have K1 := Lib.hid (show Bl w w1 from ((Below.refl _ _).alloc (Nat.le_refl _) _).trans (k1.mono (by simp)))
  rw [hp] at c10 c11 c12 c13 f0 f1 f2 f3 H1
  try simp only [hp]
  clear hp H0 k1
  go_wp2_with fail
  obtain ⟨wz, hwz⟩ : ∃ wz, (((w1.setCell ⟨p, 0, none⟩ (.int .i64 ys)).setCell ⟨p, 1, none⟩ (.int .i64 yn)).setCell ⟨p, 2, none⟩ (.string yx)).setCell ⟨p, 3, none⟩ (.int .i64 yt) = wz := ⟨_, rfl⟩
  have HZ := Lib.hid (And.intro (show Four wz p (.int .i64 ys) (.int .i64 yn) (.string yx) (.int .i64 yt) 29 from by rw [← hwz]; exact four_set H1 _ _ _ _) (show Bl w wz from by rw [← hwz]; exact below_set K1.out (by rw [HP.out]; exact Nat.le_refl _) _ _ _ _))
  rw [hwz]
  clear hwz c10 c11 c12 c13 f0 f1 f2 f3 H1
  refine (HH _).mono ?_
  rintro e w2 ⟨rfl, k2⟩
  have c2 := (HZ.out.1.on k2).c
  obtain ⟨c20, c21, c22, c23⟩ := c2
  have KK := Lib.hid (HZ.out.2.on k2)
  clear k2
  cases r
  · go_wp2_with fail
    go_ret
    exact ⟨by rw [HR.out]; rfl, KK.out⟩
  · go_wp2_with fail
    go_ret
    exact ⟨by rw [HR.out]; rfl, KK.out⟩
end Go.Proofs.Ytpnohljhpoildaa
