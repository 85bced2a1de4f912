/- Package place, walked: Text, Read. -/
import Derived.Test.YtbfclibjnanlgaaGreatDoorPpCl
import Derived.Test.YtbfclibjnanlgaaGreatDoorPpEv
import Derived.Test.YtbfclibjnanlgaaGreatDoorPpC
import Derived.Test.YtbfclibjnanlgaaGreatDoorPlT
import Derived.Test.YtbfclibjnanlgaaGreatDoorShelf
import Derived.Lib.SmallJoins
import Derived.Lib.AppendIntMem
import Derived.Outline
import Derived.Lib.LaidTab
import Derived.Lib.ConvBytes
import Derived.Lib.AtoiErrMem
namespace Go.Proofs.YtbfclibjnanlgaaGreatDoor
open Go.RowKit
set_option maxHeartbeats 400000
set_option maxRecDepth 100000
set_option linter.unusedVariables false

theorem text_cat (a b : List UInt8) : (⟨a.toArray⟩ : ByteArray) ++ ⟨#[58]⟩ ++ ⟨b.toArray⟩ = ⟨(a ++ 58 :: b).toArray⟩ := by
  apply ByteArray.ext
  simp
theorem Text_any (l c : Int) (w : World) (hE : Env w) :
    Calls Tryz.prog 48 #[posV l c] w fun e w' => e = .returned (.string ⟨(txtOf l c).toArray⟩) ∧ Below w.heap.size w w' := by
  have HS := sure_pos l c
  have HL := Line_any l c
  have HC := Column_any l c
  have qz := fun t w => eql_none (P := Tryz.prog) l c t w
  have HE := Lib.hid hE
  clear hE
  cases hp : isP l c
  · have HT : Hid (txtOf l c = []) := Lib.hid (by unfold txtOf; rw [hp]; rfl)
    rw [hp] at qz
    obtain ⟨x, y, e1⟩ := posV_cx l c
    rw [e1] at HS qz ⊢
    clear e1 HL HC
    go_enter Tryz.func48, Tryz.ntmps48
    go_wp2_with fail
    refine (HS _).mono ?_
    rintro e w1 ⟨rfl, rfl⟩
    go_wp2_with fail
    go_ret
    exact ⟨by rw [HT.out]; rfl, Below.refl _ _⟩
  · obtain ⟨h1, h2, h3, h4⟩ := (isP_iff l c).1 hp
    have HT : Hid (txtOf l c = Lib.itoa l ++ 58 :: Lib.itoa c) := Lib.hid (by unfold txtOf txt; rw [hp, itoa_dec l h1, itoa_dec c h3]; rfl)
    have z1 : (Lib.itoa l).length ≤ 10 := by rw [itoa_dec l h1]; exact dec_short l h1 h2
    have z2 : (Lib.itoa c).length ≤ 10 := by rw [itoa_dec c h3]; exact dec_short c h3 h4
    rw [show lnOf l c = l by unfold lnOf; rw [hp]; rfl] at HL
    rw [show coOf l c = c by unfold coOf; rw [hp]; rfl] at HC
    rw [hp] at qz
    obtain ⟨x, y, e1⟩ := posV_cx l c
    rw [e1] at HS HL HC qz ⊢
    clear e1
    go_enter Tryz.func48, Tryz.ntmps48
    go_wp2_with fail
    refine (HS _).mono ?_
    rintro e w1 ⟨rfl, rfl⟩
    go_wp2_with fail
    refine (HL _).mono ?_
    rintro e w2 ⟨rfl, rfl⟩
    go_wp2_with fail
    refine (Tryz.strconv_Itoa l (by omega) (by omega) _ HE.out.tab).mono ?_
    rintro e w' ⟨rfl, k, os, rfl⟩
    have hb := Lib.below_grow w2.heap.size w2 (Nat.le_refl _) k os
    have HE2 := Lib.hid (HE.out.below hb)
    generalize Sort.grow (w2.drewN k) os = w1 at *
    go_wp2_with fail
    refine (HC _).mono ?_
    rintro e w3 ⟨rfl, rfl⟩
    go_wp2_with fail
    refine (Tryz.strconv_Itoa c (by omega) (by omega) _ HE2.out.tab).mono ?_
    rintro e w' ⟨rfl, k2, os2, rfl⟩
    have hb2 := Lib.below_grow w3.heap.size w3 (Nat.le_refl _) k2 os2
    generalize Sort.grow (w3.drewN k2) os2 = w4 at *
    go_wp2_with fail
    go_ret
    exact ⟨by rw [HT.out, ← text_cat]; rfl, bt hb hb2⟩
end Go.Proofs.YtbfclibjnanlgaaGreatDoor
