/- Layer 3's laws: works, heavy. -/
import Derived.Test.YtgilhfojfmgjbaaDoorPpD
import Derived.Test.YtgilhfojfmgjbaaDoorPpE
import Derived.Test.YtgilhfojfmgjbaaDoorPpG
namespace Go.Proofs.YtgilhfojfmgjbaaDoor
open Go.RowKit
set_option maxHeartbeats 400000
set_option maxRecDepth 100000
set_option linter.unusedVariables false

theorem heavy_any (s : ByteArray) (w : World) :
    Calls Tryd.prog 9 #[.string s] w fun e w' => e = .returned (.bool (decide (4096 < s.size))) ∧ w' = w := by
  have h : decide (4096 < s.size) = decide ((4096 : Int) < s.size) := by
    by_cases h : 4096 < s.size
    · rw [decide_eq_true h, decide_eq_true (by omega)]
    · rw [decide_eq_false h, decide_eq_false (by omega)]
  have H := Lib.hid h
  clear h
  go_enter Tryd.func9, Tryd.ntmps9
  go_wp2_with fail
  go_ret
  exact ⟨by rw [H.out]; rfl, rfl⟩
theorem txt22 : txtOf 2 2 = [50, 58, 50] := by
  have h : readGo [] [50, 58, 50] = (2, 2) := by decide
  have := readGo_back [50, 58, 50] [] (by rw [h]; rfl)
  rw [h] at this
  exact this.symm
theorem works_any (w : World) (hE : Env w) :
    Calls Tryd.prog 10 #[] w fun e w' => e = .returned (.bool true) ∧ Below w.heap.size w w' := by
  obtain ⟨x1, y1, e1⟩ := posV_cx 1 1
  obtain ⟨x, y, e2⟩ := posV_cx 2 2
  have hB := fun w => Begin_any w
  have hBh := fun w => Behind_any 1 1 ⟨#[97, 98, 10, 99]⟩ (by decide) w
  rw [show goB 1 1 (⟨#[97, 98, 10, 99]⟩ : ByteArray).data.toList = (2, 2) by decide] at hBh
  have hR := fun w h => Read_any ⟨#[50, 58, 50]⟩ (by decide) w h
  rw [show readGo [] (⟨#[50, 58, 50]⟩ : ByteArray).data.toList = (2, 2) by decide, show isP 2 2 = true from rfl] at hR
  have hO := fun w => Of_any 2 2 (by omega) (by omega) (by omega) (by omega) w
  have hL := fun w => Line_any 2 2 w
  have hC := fun w => Column_any 2 2 w
  rw [show lnOf 2 2 = 2 from rfl] at hL
  rw [show coOf 2 2 = 2 from rfl] at hC
  have hT := fun w h => Text_any 2 2 w h
  rw [txt22] at hT
  have hF1 := fun w => Before_any 1 1 2 2 w
  have hF2 := fun w => Before_any 2 2 2 2 w
  rw [show pBef 1 1 2 2 = true from rfl] at hF1
  rw [show pBef 2 2 2 2 = false from rfl] at hF2
  have qe := fun t w => eql_pos (P := Tryd.prog) 2 2 2 2 t w
  rw [show pEq 2 2 2 2 = true from rfl] at qe
  simp only [e1, e2] at hB hBh hR hO hL hC hT hF1 hF2 qe
  clear e1 e2
  have HE := Lib.hid hE
  clear hE
  go_enter Tryd.func10, Tryd.ntmps10
  go_wp2_with fail
  refine (hB _).mono ?_
  rintro e w1 ⟨rfl, rfl⟩
  go_wp2_with fail
  refine (hBh _).mono ?_
  rintro e w2 ⟨rfl, rfl⟩
  go_wp2_with fail
  refine (hR _ HE.out).mono ?_
  rintro e w3 ⟨rfl, B1⟩
  have HE2 := Lib.hid (HE.out.below B1)
  go_wp2_with fail
  refine (hO _).mono ?_
  rintro e w4 ⟨rfl, rfl⟩
  go_wp2_with fail
  refine (hL _).mono ?_
  rintro e w5 ⟨rfl, rfl⟩
  go_wp2_with fail
  refine (hC _).mono ?_
  rintro e w6 ⟨rfl, rfl⟩
  go_wp2_with fail
  refine (hT _ HE2.out).mono ?_
  rintro e w7 ⟨rfl, B2⟩
  go_wp2_with fail
  refine (hB _).mono ?_
  rintro e w8 ⟨rfl, rfl⟩
  go_wp2_with fail
  refine (hF1 _).mono ?_
  rintro e w9 ⟨rfl, rfl⟩
  go_wp2_with fail
  refine (hF2 _).mono ?_
  rintro e wa ⟨rfl, rfl⟩
  go_wp2_with fail
  go_ret
  exact ⟨rfl, bt B1 B2⟩
end Go.Proofs.YtgilhfojfmgjbaaDoor
