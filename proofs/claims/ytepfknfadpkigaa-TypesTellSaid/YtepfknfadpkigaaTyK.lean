/- Package types: the known answers. -/
import Derived.Test.YtepfknfadpkigaaTyJ
namespace Go.Proofs.Ytepfknfadpkigaa
open Go.RowKit
set_option maxHeartbeats 1000000
set_option maxRecDepth 100000
set_option linter.unusedVariables false
set_option linter.unusedSimpArgs false

theorem TabK.kinds {w : World} {t g cap : Nat} {M : List Nat} {L : List TyV} {K : List TyK} (h : TabK w t g cap M L K) (j : Int) : 0 ≤ (atP L j).k ∧ (atP L j).k ≤ 255 := by
  obtain ⟨h1, h2⟩ := h.at j
  rw [h1.s.1]
  exact h2.k
def ptrT : TyV := ⟨14, ⟨#[]⟩, ⟨#[]⟩, 1, 0, 0, 0, .no, .no, .no, .no, 0⟩
def ptrK : TyK := ⟨14, ⟨#[]⟩, ⟨#[]⟩, 1, 0, 0, 0, [], [], [], [], 0⟩
theorem ptr_ok : ptrK.ok := ⟨by decide, by simp [ptrK], by simp [ptrK], by simp [ptrK], by simp [ptrK], by simp [ptrK]⟩
theorem ptr_has (w : World) (B : Nat) : Has w B ptrT ptrK := has_flat _ _ _ _ ⟨rfl, rfl, rfl, rfl⟩ ⟨rfl, rfl, rfl, rfl⟩ ⟨rfl, rfl, rfl, rfl, rfl, rfl, rfl, rfl⟩
theorem at10 (y : TyV) : atP (L0 ++ [y]) 10 = y := rfl
theorem works_any (w : World) : Calls Try.prog 6 #[] w fun e w' => e = .returned (.bool true) ∧ Bl w w' := by
  have HN := new_any
  go_enter Try.func6, Try.ntmps6
  go_wp2_with fail
  refine (HN _).mono ?_
  rintro e w1 ⟨rfl, k1, hs1, hT⟩
  have T1 := hT [w.heap.size + 1, w.heap.size] (by simp) (by simp) (fun j hj => by simp at hj; omega)
  clear hT HN
  have HA := add_ok T1 ptrT ptrK (ptr_has _ _) ptr_ok rfl (by decide)
  have HT1 := Lib.hid (And.intro T1 (And.intro k1 hs1))
  unfold ptrT TyV.val at HA
  simp only [Sl.no] at HA
  clear T1 k1 hs1
  obtain ⟨W, hW⟩ : ∃ W, w.heap.size = W := ⟨_, rfl⟩
  rw [hW] at HA
  go_wp2_with fail
  refine HA.mono ?_
  rintro e w2 ⟨rfl, hF, y, g', cap', hg, hgl, hT⟩
  obtain ⟨T1, k1, hs1⟩ := HT1.out
  rw [hW] at T1 hs1
  have T2 := hT [W + 1, g', W] (by simp) (by simp) (fun j hj => by
    simp only [List.mem_cons, List.not_mem_nil, or_false] at hj ⊢
    rcases hj with rfl | rfl | rfl
    · exact .inl (.inl rfl)
    · exact .inr rfl
    · exact .inl (.inr rfl))
  have hk := fun j => T2.kinds j
  have KW : Bl w w2 := by
    have hb := hF.low (B := w.heap.size) (by omega) (fun j hj => by simp only [List.mem_cons, List.not_mem_nil, or_false] at hj; omega)
    exact k1.trans hb
  have hy := (T2.at 10).1.s
  have hyk : y.k = 14 := hy.1
  have hyb : y.b = 1 := hy.2.2.2.1
  have tt := T2.tab
  clear hT hg hgl hF hy T1 HT1 HA
  have f1 : kindP (L0 ++ [y]) 4 = 4 := rfl
  have f2 : kindP (L0 ++ [y]) 10 = 14 := hyk
  have f3 : baseP (L0 ++ [y]) 10 = 10 := by unfold baseP; rw [at10, hyk]; rfl
  have c1 : fitsP (L0 ++ [y]) 4 6 false = false := rfl
  have c2 : numbP (L0 ++ [y]) 6 = true := rfl
  have c3 : (rangeP (L0 ++ [y]) 4) = (0, 255, true) := rfl
  have c4 : lettP (L0 ++ [y]) 4 6 = true := rfl
  have c5 : compP (L0 ++ [y]) 5 2 false = true := rfl
  have c6 : compP (L0 ++ [y]) 10 7 false = true := by unfold compP takesP; rw [f2, f3]; rfl
  have c7 : compP (L0 ++ [y]) 10 1 false = false := by unfold compP takesP; rw [f2, f3]; rfl
  have c8 : numP (L0 ++ [y]) 8 = true := rfl
  have c9 : baseP (L0 ++ [y]) 8 = 2 := rfl
  have HL := fun w1 (k : Bl w2 w1) => len_tab (tt.on k)
  rw [show (L0 ++ [y]).length = 11 from rfl] at HL
  have H1 := fun w1 (k : Bl w2 w1) => assign_char (tt.on k) hk 4 6 (.iface 69 (.string ⟨#[97]⟩)) 97 (fun w3 => by have := tnum (tellP (.str ⟨#[97]⟩)) (.iface 69 (.string ⟨#[97]⟩)) w3 (fun w4 => tell_str ⟨#[97]⟩ (by decide) w4); exact this) f1 c2 (by rw [c3]) (by rw [c3]; decide) (by rw [c3]; decide) c1 c4
  have H2 := fun w1 (k : Bl w2 w1) => comp_any (tt.on k) 5 2 false (fun h => by cases h)
  have H3 := fun w1 (k : Bl w2 w1) => comp_any (tt.on k) 10 7 false (fun h => by rw [f2] at h; cases h)
  have H4 := fun w1 (k : Bl w2 w1) => comp_any (tt.on k) 10 1 false (fun h => by rw [f2] at h; cases h)
  have H5 := fun w1 (k : Bl w2 w1) => number_any (tt.on k) 8
  have H6 := fun w1 (k : Bl w2 w1) => base_any (tt.on k) 8
  rw [c5] at H2
  rw [c6] at H3
  rw [c7] at H4
  rw [c8] at H5
  rw [c9] at H6
  have HKW := Lib.hid KW
  clear c1 c2 c3 c4 c5 c6 c7 c8 c9 f1 f2 f3 hyk hyb tt hk T2 KW k1 hs1
  go_wp2_with fail
  refine (HL _ (Below.refl _ _)).mono ?_
  rintro e w3 ⟨rfl, k3⟩
  go_wp2_with fail
  refine (H1 _ k3).mono ?_
  rintro e w4 ⟨rfl, k4⟩
  have k4 := k3.on k4
  clear k3
  go_wp2_with fail
  refine (H2 _ k4).mono ?_
  rintro e w5 ⟨rfl, k5⟩
  have k5 := k4.on k5
  clear k4
  go_wp2_with fail
  refine (H3 _ k5).mono ?_
  rintro e w6 ⟨rfl, k6⟩
  have k6 := k5.on k6
  clear k5
  go_wp2_with fail
  refine (H4 _ k6).mono ?_
  rintro e w7 ⟨rfl, k7⟩
  have k7 := k6.on k7
  clear k6
  go_wp2_with fail
  refine (H5 _ k7).mono ?_
  rintro e w8 ⟨rfl, k8⟩
  have k8 := k7.on k8
  clear k7
  go_wp2_with fail
  refine (H6 _ k8).mono ?_
  rintro e w9 ⟨rfl, k9⟩
  have k9 := k8.on k9
  clear k8
  have KK := Lib.hid (HKW.out.on k9)
  clear k9
  go_wp2_with fail
  go_ret
  exact ⟨rfl, KK.out⟩
end Go.Proofs.Ytepfknfadpkigaa
