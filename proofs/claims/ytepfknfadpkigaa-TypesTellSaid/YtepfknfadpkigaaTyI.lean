/- Package types: which types stand side by side. -/
import Derived.Test.YtepfknfadpkigaaTyH
namespace Go.Proofs.Ytepfknfadpkigaa
open Go.RowKit
set_option maxHeartbeats 1000000
set_option maxRecDepth 100000
set_option linter.unusedVariables false
set_option linter.unusedSimpArgs false

theorem is_any {w : World} {t g cap : Nat} {L : List TyV} (h : Tab w t g cap L) (i : Int) : Calls Try.prog 36 #[.pointer (some ⟨t, 0, none⟩), .int .i64 i] w fun e w' => e = .returned (.bool (kindP L i != 0)) ∧ Bl w w' := by
  have HK := kind_any h i
  generalize kindP L i = k at *
  clear h
  go_enter Try.func36, Try.ntmps36
  go_wp2_with fail
  refine (HK).mono ?_
  rintro e w1 ⟨rfl, k1⟩
  go_wp2_with fail
  go_ret
  exact ⟨rfl, k1⟩
def takesP (L : List TyV) (a b : Int) : Bool := (kindP L a == 5 && (kindP L (baseP L b) == 1 || kindP L (baseP L b) == 2)) || (kindP L a == 7 && (kindP L b == 14 || kindP L b == 15 || kindP L b == 16))
theorem takes_any {w : World} {t g cap : Nat} {L : List TyV} (h : Tab w t g cap L) (a b : Int) : Calls Try.prog 37 #[.pointer (some ⟨t, 0, none⟩), .int .i64 a, .int .i64 b] w fun e w' => e = .returned (.bool (takesP L a b)) ∧ Bl w w' := by
  have HA := kind_any h a
  have HB := fun w1 (k : Bl w w1) => base_any (h.on k) b
  have HKB := fun w1 (k : Bl w w1) => kind_any (h.on k) (baseP L b)
  have HK := fun w1 (k : Bl w w1) => kind_any (h.on k) b
  unfold takesP
  generalize baseP L b = bb at *
  generalize kindP L bb = kb at *
  generalize kindP L a = ka at *
  generalize kindP L b = kk at *
  clear h
  by_cases h5 : ka = 5
  · subst h5
    cases h1 : (kb == 1) <;> cases h2 : (kb == 2)
    all_goals
      go_enter Try.func37, Try.ntmps37
      go_wp2_with fail
      refine (HA).mono ?_
      rintro e w1 ⟨rfl, k1⟩
      go_wp2_with fail
      refine (HB _ k1).mono ?_
      rintro e w2 ⟨rfl, k2⟩
      have k2 := k1.on k2
      clear k1
      go_wp2_with fail
      refine (HKB _ k2).mono ?_
      rintro e w3 ⟨rfl, k3⟩
      have k3 := k2.on k3
      clear k2
      have KK := Lib.hid k3
      clear k3
      go_wp2_with fail
      go_ret
      exact ⟨rfl, KK.out⟩
  · have e5 : (ka == 5) = false := beq_eq_false_iff_ne.2 h5
    by_cases h7 : ka = 7
    · subst h7
      cases h1 : (kk == 14) <;> cases h2 : (kk == 15) <;> cases h3 : (kk == 16)
      all_goals
        go_enter Try.func37, Try.ntmps37
        go_wp2_with fail
        refine (HA).mono ?_
        rintro e w1 ⟨rfl, k1⟩
        go_wp2_with fail
        refine (HK _ k1).mono ?_
        rintro e w2 ⟨rfl, k2⟩
        have k2 := k1.on k2
        clear k1
        have KK := Lib.hid k2
        clear k2
        go_wp2_with fail
        go_ret
        exact ⟨rfl, KK.out⟩
    · have e7 : (ka == 7) = false := beq_eq_false_iff_ne.2 h7
      rw [e5, e7]
      go_enter Try.func37, Try.ntmps37
      go_wp2_with fail
      refine (HA).mono ?_
      rintro e w1 ⟨rfl, k1⟩
      have KK := Lib.hid k1
      clear k1
      go_wp2_with fail
      go_ret
      exact ⟨rfl, KK.out⟩
/-- Compatible, where no two procedure types are held against each other. -/
def compP (L : List TyV) (a b : Int) (al : Bool) : Bool := kindP L a != 0 && kindP L b != 0 && (baseP L a == baseP L b || (kindP L a == 16 && al) || takesP L a b || takesP L b a)
theorem comp_any {w : World} {t g cap : Nat} {L : List TyV} (h : Tab w t g cap L) (a b : Int) (al : Bool) (hal : (kindP L a == 16) = true → (baseP L a == baseP L b) = false → ∀ w1, Bl w w1 → Calls Try.prog 24 #[.pointer (some ⟨t, 0, none⟩), .int .i64 a, .int .i64 b] w1 fun e w' => e = .returned (.bool al) ∧ Bl w1 w') : Calls Try.prog 25 #[.pointer (some ⟨t, 0, none⟩), .int .i64 a, .int .i64 b] w fun e w' => e = .returned (.bool (compP L a b al)) ∧ Bl w w' := by
  have HIA := is_any h a
  have HIB := fun w1 (k : Bl w w1) => is_any (h.on k) b
  have HBA := fun w1 (k : Bl w w1) => base_any (h.on k) a
  have HBB := fun w1 (k : Bl w w1) => base_any (h.on k) b
  have HKA := fun w1 (k : Bl w w1) => kind_any (h.on k) a
  have HTA := fun w1 (k : Bl w w1) => takes_any (h.on k) a b
  have HTB := fun w1 (k : Bl w w1) => takes_any (h.on k) b a
  unfold compP
  generalize baseP L a = ba at *
  generalize baseP L b = bb at *
  generalize takesP L a b = ta at *
  generalize takesP L b a = tb at *
  generalize kindP L a = ka at *
  generalize (kindP L b != 0) = ib at *
  obtain ⟨ia, hia⟩ : ∃ ia, (ka != 0) = ia := ⟨_, rfl⟩
  rw [hia] at HIA ⊢
  clear h hia
  cases ia
  · clear hal
    go_enter Try.func25, Try.ntmps25
    go_wp2_with fail
    refine (HIA).mono ?_
    rintro e w1 ⟨rfl, k1⟩
    have KK := Lib.hid k1
    clear k1
    go_wp2_with fail
    go_ret
    exact ⟨rfl, KK.out⟩
  · cases ib
    · clear hal
      go_enter Try.func25, Try.ntmps25
      go_wp2_with fail
      refine (HIA).mono ?_
      rintro e w1 ⟨rfl, k1⟩
      go_wp2_with fail
      refine (HIB _ k1).mono ?_
      rintro e w2 ⟨rfl, k2⟩
      have k2 := k1.on k2
      clear k1
      have KK := Lib.hid k2
      clear k2
      go_wp2_with fail
      go_ret
      exact ⟨rfl, KK.out⟩
    · cases hbb : (ba == bb)
      · cases h16 : (ka == 16)
        · clear hal
          cases ta
          · cases tb
            all_goals
              go_enter Try.func25, Try.ntmps25
              go_wp2_with fail
              refine (HIA).mono ?_
              rintro e w1 ⟨rfl, k1⟩
              go_wp2_with fail
              refine (HIB _ k1).mono ?_
              rintro e w2 ⟨rfl, k2⟩
              have k2 := k1.on k2
              clear k1
              go_wp2_with fail
              refine (HBA _ k2).mono ?_
              rintro e w3 ⟨rfl, k3⟩
              have k3 := k2.on k3
              clear k2
              go_wp2_with fail
              refine (HBB _ k3).mono ?_
              rintro e w4 ⟨rfl, k4⟩
              have k4 := k3.on k4
              clear k3
              go_wp2_with fail
              refine (HKA _ k4).mono ?_
              rintro e w5 ⟨rfl, k5⟩
              have k5 := k4.on k5
              clear k4
              go_wp2_with fail
              refine (HTA _ k5).mono ?_
              rintro e w6 ⟨rfl, k6⟩
              have k6 := k5.on k6
              clear k5
              go_wp2_with fail
              refine (HTB _ k6).mono ?_
              rintro e w7 ⟨rfl, k7⟩
              have k7 := k6.on k7
              clear k6
              have KK := Lib.hid k7
              clear k7
              go_wp2_with fail
              go_ret
              exact ⟨rfl, KK.out⟩
          · go_enter Try.func25, Try.ntmps25
            go_wp2_with fail
            refine (HIA).mono ?_
            rintro e w1 ⟨rfl, k1⟩
            go_wp2_with fail
            refine (HIB _ k1).mono ?_
            rintro e w2 ⟨rfl, k2⟩
            have k2 := k1.on k2
            clear k1
            go_wp2_with fail
            refine (HBA _ k2).mono ?_
            rintro e w3 ⟨rfl, k3⟩
            have k3 := k2.on k3
            clear k2
            go_wp2_with fail
            refine (HBB _ k3).mono ?_
            rintro e w4 ⟨rfl, k4⟩
            have k4 := k3.on k4
            clear k3
            go_wp2_with fail
            refine (HKA _ k4).mono ?_
            rintro e w5 ⟨rfl, k5⟩
            have k5 := k4.on k5
            clear k4
            go_wp2_with fail
            refine (HTA _ k5).mono ?_
            rintro e w6 ⟨rfl, k6⟩
            have k6 := k5.on k6
            clear k5
            have KK := Lib.hid k6
            clear k6
            go_wp2_with fail
            go_ret
            exact ⟨rfl, KK.out⟩
        · have HAL := hal h16 hbb
          clear hal
          cases al
          · cases ta
            · cases tb
              all_goals
                go_enter Try.func25, Try.ntmps25
                go_wp2_with fail
                refine (HIA).mono ?_
                rintro e w1 ⟨rfl, k1⟩
                go_wp2_with fail
                refine (HIB _ k1).mono ?_
                rintro e w2 ⟨rfl, k2⟩
                have k2 := k1.on k2
                clear k1
                go_wp2_with fail
                refine (HBA _ k2).mono ?_
                rintro e w3 ⟨rfl, k3⟩
                have k3 := k2.on k3
                clear k2
                go_wp2_with fail
                refine (HBB _ k3).mono ?_
                rintro e w4 ⟨rfl, k4⟩
                have k4 := k3.on k4
                clear k3
                go_wp2_with fail
                refine (HKA _ k4).mono ?_
                rintro e w5 ⟨rfl, k5⟩
                have k5 := k4.on k5
                clear k4
                go_wp2_with fail
                refine (HAL _ k5).mono ?_
                rintro e w6 ⟨rfl, k6⟩
                have k6 := k5.on k6
                clear k5
                go_wp2_with fail
                refine (HTA _ k6).mono ?_
                rintro e w7 ⟨rfl, k7⟩
                have k7 := k6.on k7
                clear k6
                go_wp2_with fail
                refine (HTB _ k7).mono ?_
                rintro e w8 ⟨rfl, k8⟩
                have k8 := k7.on k8
                clear k7
                have KK := Lib.hid k8
                clear k8
                go_wp2_with fail
                go_ret
                exact ⟨rfl, KK.out⟩
            · go_enter Try.func25, Try.ntmps25
              go_wp2_with fail
              refine (HIA).mono ?_
              rintro e w1 ⟨rfl, k1⟩
              go_wp2_with fail
              refine (HIB _ k1).mono ?_
              rintro e w2 ⟨rfl, k2⟩
              have k2 := k1.on k2
              clear k1
              go_wp2_with fail
              refine (HBA _ k2).mono ?_
              rintro e w3 ⟨rfl, k3⟩
              have k3 := k2.on k3
              clear k2
              go_wp2_with fail
              refine (HBB _ k3).mono ?_
              rintro e w4 ⟨rfl, k4⟩
              have k4 := k3.on k4
              clear k3
              go_wp2_with fail
              refine (HKA _ k4).mono ?_
              rintro e w5 ⟨rfl, k5⟩
              have k5 := k4.on k5
              clear k4
              go_wp2_with fail
              refine (HAL _ k5).mono ?_
              rintro e w6 ⟨rfl, k6⟩
              have k6 := k5.on k6
              clear k5
              go_wp2_with fail
              refine (HTA _ k6).mono ?_
              rintro e w7 ⟨rfl, k7⟩
              have k7 := k6.on k7
              clear k6
              have KK := Lib.hid k7
              clear k7
              go_wp2_with fail
              go_ret
              exact ⟨rfl, KK.out⟩
          · go_enter Try.func25, Try.ntmps25
            go_wp2_with fail
            refine (HIA).mono ?_
            rintro e w1 ⟨rfl, k1⟩
            go_wp2_with fail
            refine (HIB _ k1).mono ?_
            rintro e w2 ⟨rfl, k2⟩
            have k2 := k1.on k2
            clear k1
            go_wp2_with fail
            refine (HBA _ k2).mono ?_
            rintro e w3 ⟨rfl, k3⟩
            have k3 := k2.on k3
            clear k2
            go_wp2_with fail
            refine (HBB _ k3).mono ?_
            rintro e w4 ⟨rfl, k4⟩
            have k4 := k3.on k4
            clear k3
            go_wp2_with fail
            refine (HKA _ k4).mono ?_
            rintro e w5 ⟨rfl, k5⟩
            have k5 := k4.on k5
            clear k4
            go_wp2_with fail
            refine (HAL _ k5).mono ?_
            rintro e w6 ⟨rfl, k6⟩
            have k6 := k5.on k6
            clear k5
            have KK := Lib.hid k6
            clear k6
            go_wp2_with fail
            go_ret
            exact ⟨rfl, KK.out⟩
      · clear hal
        go_enter Try.func25, Try.ntmps25
        go_wp2_with fail
        refine (HIA).mono ?_
        rintro e w1 ⟨rfl, k1⟩
        go_wp2_with fail
        refine (HIB _ k1).mono ?_
        rintro e w2 ⟨rfl, k2⟩
        have k2 := k1.on k2
        clear k1
        go_wp2_with fail
        refine (HBA _ k2).mono ?_
        rintro e w3 ⟨rfl, k3⟩
        have k3 := k2.on k3
        clear k2
        go_wp2_with fail
        refine (HBB _ k3).mono ?_
        rintro e w4 ⟨rfl, k4⟩
        have k4 := k3.on k4
        clear k3
        have KK := Lib.hid k4
        clear k4
        go_wp2_with fail
        go_ret
        exact ⟨rfl, KK.out⟩
end Go.Proofs.Ytepfknfadpkigaa
