/- The document of layer 10: One. -/
import Derived.Test.YtpnohljhpoildaaKnZ
namespace Go.Proofs.Ytpnohljhpoildaa
open Go.RowKit
set_option maxHeartbeats 4000000
set_option maxRecDepth 100000
set_option linter.unusedVariables false
set_option linter.unusedSimpArgs false

def oneD (o : List UInt8) (x : LV) : LV × Int :=
  if o = [43] then (if x.s = 1 then (x, 0) else (zV, 100))
  else if o = [45] then (if x.s = 1 then wholeD (-x.n) else (zV, 100))
  else if o = [78, 79, 84] then (if x.s = 3 then (truD (x.n == 0), 0) else (zV, 100))
  else (zV, 103)
theorem done_plus_no (x : LV) (h : (x.s != 1) = true) (w : World) : Calls Try.prog 14 #[.string ⟨#[43]⟩, x.val] w (AnsD (zV, 100) w) := by
  obtain ⟨qs, qn, qx, qt⟩ := x
  unfold LV.val at *
  have H0 := (Four.new (w.alloc (.cells #[.int .i64 qs, .int .i64 qn, .string qx, .int .i64 qt] 29)) (.int .i64 0) (.int .i64 0) (.string ⟨#[]⟩) (.int .i64 0) 29)
  try simp only at h
  go_enter Try.func14, Try.ntmps14
  go_wp2_with fail
  refine bodyPost_ret (v := .tuple #[.agg #[.int .i64 0, .int .i64 0, .string ⟨#[]⟩, .int .i64 0], .int .i64 100]) (by simp [results, Try.results14, go_sem]) rfl ⟨rfl, ?_⟩
  repeat (first | exact Below.refl _ _ | assumption | refine Below.alloc ?_ (by simp <;> omega) _ | refine Below.setCell ?_ (by simp <;> omega) _)
theorem done_minus_no (x : LV) (h : (x.s != 1) = true) (w : World) : Calls Try.prog 14 #[.string ⟨#[45]⟩, x.val] w (AnsD (zV, 100) w) := by
  obtain ⟨qs, qn, qx, qt⟩ := x
  unfold LV.val at *
  have H0 := (Four.new (w.alloc (.cells #[.int .i64 qs, .int .i64 qn, .string qx, .int .i64 qt] 29)) (.int .i64 0) (.int .i64 0) (.string ⟨#[]⟩) (.int .i64 0) 29)
  try simp only at h
  go_enter Try.func14, Try.ntmps14
  go_wp2_with fail
  refine bodyPost_ret (v := .tuple #[.agg #[.int .i64 0, .int .i64 0, .string ⟨#[]⟩, .int .i64 0], .int .i64 100]) (by simp [results, Try.results14, go_sem]) rfl ⟨rfl, ?_⟩
  repeat (first | exact Below.refl _ _ | assumption | refine Below.alloc ?_ (by simp <;> omega) _ | refine Below.setCell ?_ (by simp <;> omega) _)
theorem done_plus (x : LV) (h : (x.s != 1) = false) (w : World) : Calls Try.prog 14 #[.string ⟨#[43]⟩, x.val] w (AnsD (x, 0) w) := by
  obtain ⟨qs, qn, qx, qt⟩ := x
  unfold LV.val at *
  have H0 := (Four.new (w.alloc (.cells #[.int .i64 qs, .int .i64 qn, .string qx, .int .i64 qt] 29)) (.int .i64 0) (.int .i64 0) (.string ⟨#[]⟩) (.int .i64 0) 29)
  try simp only at h
  go_enter Try.func14, Try.ntmps14
  go_wp2_with fail
  refine bodyPost_ret (v := .tuple #[.agg #[.int .i64 qs, .int .i64 qn, .string qx, .int .i64 qt], .int .i64 0]) (by simp [results, Try.results14, go_sem]) rfl ⟨rfl, ?_⟩
  repeat (first | exact Below.refl _ _ | assumption | refine Below.alloc ?_ (by simp <;> omega) _ | refine Below.setCell ?_ (by simp <;> omega) _)
theorem done_minus (x : LV) (h : (x.s != 1) = false) (z : Int) (hz : wrap64 (-x.n) = z) (w : World) : Calls Try.prog 14 #[.string ⟨#[45]⟩, x.val] w (AnsD (wholeD z) w) := by
  have HT := whole_d z
  obtain ⟨p, hp⟩ : ∃ p, wholeD z = p := ⟨_, rfl⟩
  rw [hp] at HT ⊢
  obtain ⟨⟨ts, tn, tx, tt⟩, er⟩ := p
  unfold AnsD LV.val at HT
  simp only at HT
  clear hp
  obtain ⟨qs, qn, qx, qt⟩ := x
  unfold LV.val at *
  have H0 := (Four.new (w.alloc (.cells #[.int .i64 qs, .int .i64 qn, .string qx, .int .i64 qt] 29)) (.int .i64 0) (.int .i64 0) (.string ⟨#[]⟩) (.int .i64 0) 29)
  try simp only at h hz
  go_enter Try.func14, Try.ntmps14
  go_wp2_with fail
  refine (HT _).mono ?_
  rintro e w1 ⟨rfl, k1⟩
  have H1 := H0.on k1
  simp only [World.size_alloc] at H1
  obtain ⟨c10, c11, c12, c13⟩ := H1.c
  have f0 := H1.f 0
  have f1 := H1.f 1
  have f2 := H1.f 2
  have f3 := H1.f 3
  have hs := k1.size
  simp only [World.size_alloc] at hs
  have K1 := Lib.hid (show Bl w w1 from (((Below.refl _ _).alloc (Nat.le_refl _) _).alloc (by simp) _).trans (k1.mono (by simp <;> omega)))
  go_wp2_with fail
  refine bodyPost_ret (v := .tuple #[.agg #[.int .i64 ts, .int .i64 tn, .string tx, .int .i64 tt], .int .i64 er]) (by simp [results, Try.results14, go_sem, c10, c11, c12, c13]) rfl ⟨rfl, ?_⟩
  have K2 := K1.out
  repeat (first | exact Below.refl _ _ | assumption | refine Below.alloc ?_ (by simp <;> omega) _ | refine Below.setCell ?_ (by simp <;> omega) _)
theorem done_not_no (x : LV) (h : (x.s != 3) = true) (w : World) : Calls Try.prog 14 #[.string ⟨#[78, 79, 84]⟩, x.val] w (AnsD (zV, 100) w) := by
  obtain ⟨qs, qn, qx, qt⟩ := x
  unfold LV.val at *
  have H0 := (Four.new (w.alloc (.cells #[.int .i64 qs, .int .i64 qn, .string qx, .int .i64 qt] 29)) (.int .i64 0) (.int .i64 0) (.string ⟨#[]⟩) (.int .i64 0) 29)
  try simp only at h
  go_enter Try.func14, Try.ntmps14
  go_wp2_with fail
  refine bodyPost_ret (v := .tuple #[.agg #[.int .i64 0, .int .i64 0, .string ⟨#[]⟩, .int .i64 0], .int .i64 100]) (by simp [results, Try.results14, go_sem]) rfl ⟨rfl, ?_⟩
  repeat (first | exact Below.refl _ _ | assumption | refine Below.alloc ?_ (by simp <;> omega) _ | refine Below.setCell ?_ (by simp <;> omega) _)
theorem done_not (x : LV) (h : (x.s != 3) = false) (w : World) : Calls Try.prog 14 #[.string ⟨#[78, 79, 84]⟩, x.val] w (AnsD (truD (x.n == 0), 0) w) := by
  have HT := truth_d (x.n == 0)
  obtain ⟨c, hc⟩ : ∃ c, (x.n == 0) = c := ⟨_, rfl⟩
  rw [hc] at HT ⊢
  obtain ⟨tv, htv⟩ : ∃ t, truD c = t := ⟨_, rfl⟩
  rw [htv] at HT ⊢
  clear htv
  obtain ⟨ts, tn, tx, tt⟩ := tv
  obtain ⟨qs, qn, qx, qt⟩ := x
  unfold LV.val at *
  have H0 := (Four.new (w.alloc (.cells #[.int .i64 qs, .int .i64 qn, .string qx, .int .i64 qt] 29)) (.int .i64 0) (.int .i64 0) (.string ⟨#[]⟩) (.int .i64 0) 29)
  try simp only at h hc
  go_enter Try.func14, Try.ntmps14
  go_wp2_with fail
  refine (HT _).mono ?_
  rintro e w1 ⟨rfl, k1⟩
  have H1 := H0.on k1
  simp only [World.size_alloc] at H1
  obtain ⟨c10, c11, c12, c13⟩ := H1.c
  have f0 := H1.f 0
  have f1 := H1.f 1
  have f2 := H1.f 2
  have f3 := H1.f 3
  have hs := k1.size
  simp only [World.size_alloc] at hs
  have K1 := Lib.hid (show Bl w w1 from (((Below.refl _ _).alloc (Nat.le_refl _) _).alloc (by simp) _).trans (k1.mono (by simp <;> omega)))
  go_wp2_with fail
  refine bodyPost_ret (v := .tuple #[.agg #[.int .i64 ts, .int .i64 tn, .string tx, .int .i64 tt], .int .i64 0]) (by simp [results, Try.results14, go_sem, c10, c11, c12, c13]) rfl ⟨rfl, ?_⟩
  have K2 := K1.out
  repeat (first | exact Below.refl _ _ | assumption | refine Below.alloc ?_ (by simp <;> omega) _ | refine Below.setCell ?_ (by simp <;> omega) _)
theorem done_else (o : List UInt8) (h0 : o ≠ [43]) (h1 : o ≠ [45]) (h2 : o ≠ [78, 79, 84]) (x : LV) (w : World) : Calls Try.prog 14 #[.string ⟨o.toArray⟩, x.val] w (AnsD (zV, 103) w) := by
  obtain ⟨qs, qn, qx, qt⟩ := x
  unfold LV.val at *
  have e0 : (o == ([43] : List UInt8)) = false := beq_eq_false_iff_ne.2 h0
  have e1 : (o == ([45] : List UInt8)) = false := beq_eq_false_iff_ne.2 h1
  have e2 : (o == ([78, 79, 84] : List UInt8)) = false := beq_eq_false_iff_ne.2 h2
  clear h0 h1 h2
  go_enter Try.func14, Try.ntmps14
  go_wp2_with fail
  refine bodyPost_ret (v := .tuple #[.agg #[.int .i64 0, .int .i64 0, .string ⟨#[]⟩, .int .i64 0], .int .i64 103]) (by simp [results, Try.results14, go_sem]) rfl ⟨rfl, ?_⟩
  repeat (first | exact Below.refl _ _ | assumption | refine Below.alloc ?_ (by simp <;> omega) _ | refine Below.setCell ?_ (by simp <;> omega) _)
theorem oned_any (o : List UInt8) (x : LV) (hw : x.s = 1 → inW x.n = true) (w : World) : Calls Try.prog 14 #[.string ⟨o.toArray⟩, x.val] w (AnsD (oneD o x) w) := by
  by_cases h0 : o = [43]
  · subst h0
    by_cases h : x.s = 1
    · rw [show oneD [43] x = (x, 0) from if_pos h]; exact done_plus x (by rw [h]; rfl) w
    · rw [show oneD [43] x = (zV, 100) from if_neg h]; exact done_plus_no x (by rw [bne_iff_ne]; exact h) w
  by_cases h1 : o = [45]
  · subst h1
    by_cases h : x.s = 1
    · have hb := inW_bd (hw h)
      rw [show oneD [45] x = wholeD (-x.n) from if_pos h]; exact done_minus x (by rw [h]; rfl) (-x.n) (IntWalk.wrap64_in _ (by omega)) w
    · rw [show oneD [45] x = (zV, 100) from if_neg h]; exact done_minus_no x (by rw [bne_iff_ne]; exact h) w
  by_cases h2 : o = [78, 79, 84]
  · subst h2
    by_cases h : x.s = 3
    · rw [show oneD [78, 79, 84] x = (truD (x.n == 0), 0) from if_pos h]; exact done_not x (by rw [h]; rfl) w
    · rw [show oneD [78, 79, 84] x = (zV, 100) from if_neg h]; exact done_not_no x (by rw [bne_iff_ne]; exact h) w
  · rw [show oneD o x = (zV, 103) from by unfold oneD; rw [if_neg h0, if_neg h1, if_neg h2]]; exact done_else o h0 h1 h2 x w
end Go.Proofs.Ytpnohljhpoildaa
