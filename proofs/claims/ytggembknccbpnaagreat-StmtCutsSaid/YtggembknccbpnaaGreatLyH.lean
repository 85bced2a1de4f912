/- The document's answers of layer 4, walked: One. -/
import Derived.Test.YtggembknccbpnaaGreatLyM
import Derived.Test.YtggembknccbpnaaGreatLyG
namespace Go.Proofs.YtggembknccbpnaaGreat
open Go.RowKit
set_option maxHeartbeats 1000000
set_option maxRecDepth 100000
set_option linter.unusedVariables false

theorem one_letter (s : ByteArray) (hs : s.size ≤ 1048576) (h0 : 0 < s.size) (hl : isLt (s.data.toList.headD 0) = true) (w : World) :
    Calls Tryz.prog 25 #[.string s] w fun e w' => e = .returned (oneV (oneL s.data.toList)) ∧ Below w.heap.size w w' := by
  have hsc := fun w a x y m => store_cx (P := Tryz.prog) w a .f64 x y m
  obtain ⟨r, hr⟩ := byte_cons s h0
  have HL := fun w => letter_any s[0] w
  obtain ⟨c, hc⟩ : ∃ c, s[0] = c := ⟨_, rfl⟩
  rw [hc] at HL hr
  have hh : s.data.toList.headD 0 = c := by rw [hr]; rfl
  rw [hh] at hl
  rw [hl] at HL
  have hl : isLt (s.data.toList.headD 0) = true := by rw [hh]; exact hl
  clear hh hr
  have D0 := below_new w (.cells #[.int .u8 0, .complex .f64 0 0, .complex .f64 0 0, .string ⟨#[]⟩, .int .i64 0] 73)
  have A0 := Fv.new w (.int .u8 0) (.complex .f64 0 0) (.complex .f64 0 0) (.string ⟨#[]⟩) (.int .i64 0) 73 w.heap.size rfl
  have hlt0 : w.heap.size < (w.alloc (.cells #[.int .u8 0, .complex .f64 0 0, .complex .f64 0 0, .string ⟨#[]⟩, .int .i64 0] 73)).heap.size := by simp
  go_enter Tryz.func25, Tryz.ntmps25
  go_wp2_with fail
  refine (HL _).mono ?_
  rintro e w1 ⟨rfl, rfl⟩
  clear HL
  go_wp2_with fail
  generalize w.alloc (.cells #[.int .u8 0, .complex .f64 0 0, .complex .f64 0 0, .string ⟨#[]⟩, .int .i64 0] 73) = w0 at D0 A0 hlt0 ⊢
  go_loop [5] (fun n => ∃ k : Nat, k ≤ s.size ∧ n = .int .i64 k ∧ farI isAn s.data.toList k)
    (fun n => s.size - (intOf n).toNat)
  case atStart => exact ⟨0, by omega, rfl, far_start _ _⟩
  case round =>
    obtain ⟨k, hk, rfl, hfar⟩ := hrel
    have HR := Lib.hid hfar
    clear hfar
    by_cases hlt : k < s.size
    · have hget := byte_get s k hlt
      have HL := fun w => letter_any s[k] w
      have HG := fun w => digit_any s[k] w
      obtain ⟨b, hb⟩ : ∃ b, s[k] = b := ⟨_, rfl⟩
      rw [hb] at hget HL HG
      cases hbl : isLt b
      · rw [hbl] at HL
        cases hbd : isDg b
        · rw [hbd] at HG
          have HE : Hid (∀ b, s.data.toList[k]? = some b → isAn b = false) := Lib.hid (fun b' hb' => by
            rw [hget] at hb'
            rw [← Option.some.inj hb']
            unfold isAn; rw [hbl, hbd]; rfl)
          clear hget hbl hbd
          go_wp2_with fail
          refine (HL _).mono ?_
          rintro e v1 ⟨rfl, rfl⟩
          go_wp2_with fail
          refine (HG _).mono ?_
          rintro e v2 ⟨rfl, rfl⟩
          clear HL HG
          have hend := far_end isAn s.data.toList k (by rw [bytes_of]; exact hk) HR.out HE.out
          have HO : Hid (oneL s.data.toList = if 32 < k then (none, 0, 5) else (some ⟨if wordB (s.data.toList.take k) then 6 else 1, s.data.toList.take k, 0⟩, k, 0)) := Lib.hid (by
            unfold oneL
            rw [if_pos hl, hend.2, hend.1])
          clear hend HR HE
          by_cases h32 : 32 < k
          · have HT : Hid (oneL s.data.toList = (none, 0, 5)) := Lib.hid (by rw [HO.out, if_pos h32])
            have hq : (32 : Int) < (k : Int) := by omega
            have g0 := A0.c0
            have g1 := A0.c1
            have g2 := A0.c2
            have g3 := A0.c3
            have g4 := A0.c4
            have e0 := A0.f0
            have e1 := A0.f1
            have e2 := A0.f2
            have e3 := A0.f3
            have e4 := A0.f4
            clear HO
            go_wp2_with fail
            have R := (((((A0.set0 (.int .u8 0)).set1 (.complex .f64 0 0)).set2 (.complex .f64 0 0)).set3 (.string ⟨#[]⟩)).set4 (.int .i64 0))
            have r0 := R.c0
            have r1 := R.c1
            have r2 := R.c2
            have r3 := R.c3
            have r4 := R.c4
            refine bodyPost_ret (v := .tuple #[.agg #[.int .u8 0, .complex .f64 0 0, .complex .f64 0 0, .string ⟨#[]⟩, .int .i64 0], .int .i64 0, .int .i64 5]) (by simp [results, Tryz.results25, go_sem, r0, r1, r2, r3, r4]) rfl ?_
            exact ⟨by rw [HT.out]; rfl, below_set5 D0 (Nat.le_refl _) _ _ _ _ _⟩
          · have hq : ¬ (32 : Int) < (k : Int) := by omega
            have hx1 : (0 : Int) ≤ (k : Int) := by omega
            have hx2 : (k : Int) ≤ (s.size : Int) := by omega
            have hel := extract_take' s k hk
            have HW := fun w => Word_any (s.extract 0 k) w
            rw [hel] at HW
            have HX := Lib.hid (str_of _ _ hel)
            have HO2 : Hid (oneL s.data.toList = (some ⟨if wordB (s.data.toList.take k) then 6 else 1, s.data.toList.take k, 0⟩, k, 0)) := Lib.hid (by rw [HO.out, if_neg h32])
            clear HO hel
            go_wp2_with fail
            refine (HW _).mono ?_
            rintro e w2 ⟨rfl, B1⟩
            have A1 := A0.below B1 hlt0
            have D1 := bt D0 B1
            have g0 := A1.c0
            have g1 := A1.c1
            have g2 := A1.c2
            have g3 := A1.c3
            have g4 := A1.c4
            have e0 := A1.f0
            have e1 := A1.f1
            have e2 := A1.f2
            have e3 := A1.f3
            have e4 := A1.f4
            clear HW
            cases hz : wordB (s.data.toList.take k)
            · rw [hz] at HO2
              clear hz
              go_wp2_with fail
              have R := (((((A1.set0 (.int .u8 1)).set1 (.complex .f64 0 0)).set2 (.complex .f64 0 0)).set3 (.string (s.extract 0 k))).set4 (.int .i64 0))
              have r0 := R.c0
              have r1 := R.c1
              have r2 := R.c2
              have r3 := R.c3
              have r4 := R.c4
              refine bodyPost_ret (v := .tuple #[.agg #[.int .u8 1, .complex .f64 0 0, .complex .f64 0 0, .string (s.extract 0 k), .int .i64 0], .int .i64 k, .int .i64 0]) (by simp [results, Tryz.results25, go_sem, r0, r1, r2, r3, r4]) rfl ?_
              exact ⟨by rw [HO2.out, HX.out]; rfl, below_set5 D1 (Nat.le_refl _) _ _ _ _ _⟩
            · rw [hz] at HO2
              clear hz
              go_wp2_with fail
              have R := (((((A1.set0 (.int .u8 6)).set1 (.complex .f64 0 0)).set2 (.complex .f64 0 0)).set3 (.string (s.extract 0 k))).set4 (.int .i64 0))
              have r0 := R.c0
              have r1 := R.c1
              have r2 := R.c2
              have r3 := R.c3
              have r4 := R.c4
              refine bodyPost_ret (v := .tuple #[.agg #[.int .u8 6, .complex .f64 0 0, .complex .f64 0 0, .string (s.extract 0 k), .int .i64 0], .int .i64 k, .int .i64 0]) (by simp [results, Tryz.results25, go_sem, r0, r1, r2, r3, r4]) rfl ?_
              exact ⟨by rw [HO2.out, HX.out]; rfl, below_set5 D1 (Nat.le_refl _) _ _ _ _ _⟩
        · rw [hbd] at HG
          have HK := Lib.hid (far_step isAn _ k b hget (by unfold isAn; rw [hbd]; simp) HR.out)
          clear hget hbl hbd
          go_wp2_with fail
          refine (HL _).mono ?_
          rintro e v1 ⟨rfl, rfl⟩
          go_wp2_with fail
          refine (HG _).mono ?_
          rintro e v2 ⟨rfl, rfl⟩
          go_wp2_with fail
          go_round
          case rel => exact ⟨k + 1, by omega, by simp, HK.out⟩
          case measure => simp [intOf]; omega
      · rw [hbl] at HL
        have HK := Lib.hid (far_step isAn _ k b hget (by unfold isAn; rw [hbl]; rfl) HR.out)
        clear hget hbl HG
        go_wp2_with fail
        refine (HL _).mono ?_
        rintro e v1 ⟨rfl, rfl⟩
        go_wp2_with fail
        go_round
        case rel => exact ⟨k + 1, by omega, by simp, HK.out⟩
        case measure => simp [intOf]; omega
    · have hnl : ¬ (k : Int) < (s.size : Int) := by omega
      have HE : Hid (∀ b, s.data.toList[k]? = some b → isAn b = false) := Lib.hid (fun b' hb' => by
        rw [List.getElem?_eq_none (by rw [bytes_of]; omega)] at hb'; cases hb')
      have hend := far_end isAn s.data.toList k (by rw [bytes_of]; exact hk) HR.out HE.out
      have HO : Hid (oneL s.data.toList = if 32 < k then (none, 0, 5) else (some ⟨if wordB (s.data.toList.take k) then 6 else 1, s.data.toList.take k, 0⟩, k, 0)) := Lib.hid (by
        unfold oneL
        rw [if_pos hl, hend.2, hend.1])
      clear hend HR HE
      by_cases h32 : 32 < k
      · have HT : Hid (oneL s.data.toList = (none, 0, 5)) := Lib.hid (by rw [HO.out, if_pos h32])
        have hq : (32 : Int) < (k : Int) := by omega
        have g0 := A0.c0
        have g1 := A0.c1
        have g2 := A0.c2
        have g3 := A0.c3
        have g4 := A0.c4
        have e0 := A0.f0
        have e1 := A0.f1
        have e2 := A0.f2
        have e3 := A0.f3
        have e4 := A0.f4
        clear HO
        go_wp2_with fail
        have R := (((((A0.set0 (.int .u8 0)).set1 (.complex .f64 0 0)).set2 (.complex .f64 0 0)).set3 (.string ⟨#[]⟩)).set4 (.int .i64 0))
        have r0 := R.c0
        have r1 := R.c1
        have r2 := R.c2
        have r3 := R.c3
        have r4 := R.c4
        refine bodyPost_ret (v := .tuple #[.agg #[.int .u8 0, .complex .f64 0 0, .complex .f64 0 0, .string ⟨#[]⟩, .int .i64 0], .int .i64 0, .int .i64 5]) (by simp [results, Tryz.results25, go_sem, r0, r1, r2, r3, r4]) rfl ?_
        exact ⟨by rw [HT.out]; rfl, below_set5 D0 (Nat.le_refl _) _ _ _ _ _⟩
      · have hq : ¬ (32 : Int) < (k : Int) := by omega
        have hx1 : (0 : Int) ≤ (k : Int) := by omega
        have hx2 : (k : Int) ≤ (s.size : Int) := by omega
        have hel := extract_take' s k hk
        have HW := fun w => Word_any (s.extract 0 k) w
        rw [hel] at HW
        have HX := Lib.hid (str_of _ _ hel)
        have HO2 : Hid (oneL s.data.toList = (some ⟨if wordB (s.data.toList.take k) then 6 else 1, s.data.toList.take k, 0⟩, k, 0)) := Lib.hid (by rw [HO.out, if_neg h32])
        clear HO hel
        go_wp2_with fail
        refine (HW _).mono ?_
        rintro e w2 ⟨rfl, B1⟩
        have A1 := A0.below B1 hlt0
        have D1 := bt D0 B1
        have g0 := A1.c0
        have g1 := A1.c1
        have g2 := A1.c2
        have g3 := A1.c3
        have g4 := A1.c4
        have e0 := A1.f0
        have e1 := A1.f1
        have e2 := A1.f2
        have e3 := A1.f3
        have e4 := A1.f4
        clear HW
        cases hz : wordB (s.data.toList.take k)
        · rw [hz] at HO2
          clear hz
          go_wp2_with fail
          have R := (((((A1.set0 (.int .u8 1)).set1 (.complex .f64 0 0)).set2 (.complex .f64 0 0)).set3 (.string (s.extract 0 k))).set4 (.int .i64 0))
          have r0 := R.c0
          have r1 := R.c1
          have r2 := R.c2
          have r3 := R.c3
          have r4 := R.c4
          refine bodyPost_ret (v := .tuple #[.agg #[.int .u8 1, .complex .f64 0 0, .complex .f64 0 0, .string (s.extract 0 k), .int .i64 0], .int .i64 k, .int .i64 0]) (by simp [results, Tryz.results25, go_sem, r0, r1, r2, r3, r4]) rfl ?_
          exact ⟨by rw [HO2.out, HX.out]; rfl, below_set5 D1 (Nat.le_refl _) _ _ _ _ _⟩
        · rw [hz] at HO2
          clear hz
          go_wp2_with fail
          have R := (((((A1.set0 (.int .u8 6)).set1 (.complex .f64 0 0)).set2 (.complex .f64 0 0)).set3 (.string (s.extract 0 k))).set4 (.int .i64 0))
          have r0 := R.c0
          have r1 := R.c1
          have r2 := R.c2
          have r3 := R.c3
          have r4 := R.c4
          refine bodyPost_ret (v := .tuple #[.agg #[.int .u8 6, .complex .f64 0 0, .complex .f64 0 0, .string (s.extract 0 k), .int .i64 0], .int .i64 k, .int .i64 0]) (by simp [results, Tryz.results25, go_sem, r0, r1, r2, r3, r4]) rfl ?_
          exact ⟨by rw [HO2.out, HX.out]; rfl, below_set5 D1 (Nat.le_refl _) _ _ _ _ _⟩
end Go.Proofs.YtggembknccbpnaaGreat
