/- Package types: what may be assigned. -/
import Derived.Test.YtepfknfadpkigaaTyI
import Derived.Test.YtepfknfadpkigaaKnC
namespace Go.Proofs.Ytepfknfadpkigaa
open Go.RowKit
set_option maxHeartbeats 1000000
set_option maxRecDepth 100000
set_option linter.unusedVariables false
set_option linter.unusedSimpArgs false

theorem infoV : (Try.prog.info? 100).map (·.size) = some 4 := by kernel_rfl
theorem tnum (x : TV) (v : Value) (w : World) (HT : ∀ w1, Calls Try.prog 57 #[v] w1 fun e w' => e = .returned x.val ∧ Bl w1 w') : Calls Try.prog 38 #[v] w fun e w' => e = .returned (.tuple #[.int .i64 (if x.num = true then x.n else 0), .bool x.num]) ∧ Bl w w' := by
  have HN := num_any x
  obtain ⟨n, hn⟩ : ∃ n, x.num = n := ⟨_, rfl⟩
  rw [hn] at HN ⊢
  clear hn
  obtain ⟨s, t, b, m⟩ := x
  unfold TV.val at HT HN
  simp only at HT HN ⊢
  cases n
  all_goals
    go_enter Try.func38, Try.ntmps38
    go_wp2_with fail
    refine (HT _).mono ?_
    rintro e w1 ⟨rfl, k1⟩
    go_wp2_with (refine wpList_store_row rfl 100 _ _ rfl w1.heap.size #[.int .i64 s, .int .i64 t, .string b, .int .i64 m] rfl rfl 100 _ (heap_alloc_new _ _) infoV rfl (by simp [Value.oneCell']) ?_; rw [World.setRow_alloc_new])
    refine (HN _).mono ?_
    rintro e w2 ⟨rfl, k2⟩
    have B := ((Bx.new w1 100 #[.int .i64 s, .int .i64 t, .string b, .int .i64 m]).on k2).at 3
    simp only [List.getElem?_toArray, List.getElem?_cons_zero, List.getElem?_cons_succ] at B
    obtain ⟨b3, _⟩ := B
    have KK := Lib.hid ((k1.on (bl_new w1 (.cells #[.int .i64 s, .int .i64 t, .string b, .int .i64 m] 100))).on k2)
    clear k1 k2
    go_wp2_with fail
    go_ret2
    exact ⟨rfl, KK.out⟩
theorem leng_nil (w : World) : Calls Try.prog 43 #[.nilIface] w fun e w' => e = .returned (.tuple #[.int .i64 0, .bool false]) ∧ Bl w w' := by
  have has := fun w => as_none_str (w := w)
  go_enter Try.func43, Try.ntmps43
  go_wp2_with fail
  go_ret2
  exact ⟨rfl, Below.refl _ _⟩
def fitsP (L : List TyV) (a b : Int) (al : Bool) : Bool := compP L a b al || (numP L a && numP L b)
theorem fits_any {w : World} {t g cap : Nat} {L : List TyV} (h : Tab w t g cap L) (a b : Int) (al : Bool) (hal : (kindP L a == 16) = true → (baseP L a == baseP L b) = false → ∀ w1, Bl w w1 → Calls Try.prog 24 #[.pointer (some ⟨t, 0, none⟩), .int .i64 a, .int .i64 b] w1 fun e w' => e = .returned (.bool al) ∧ Bl w1 w') : Calls Try.prog 41 #[.pointer (some ⟨t, 0, none⟩), .int .i64 a, .int .i64 b] w fun e w' => e = .returned (.bool (fitsP L a b al)) ∧ Bl w w' := by
  have HC := comp_any h a b al hal
  have HA := fun w1 (k : Bl w w1) => number_any (h.on k) a
  have HB := fun w1 (k : Bl w w1) => number_any (h.on k) b
  unfold fitsP
  generalize compP L a b al = c at *
  generalize numP L a = na at *
  generalize numP L b = nb at *
  clear h hal
  cases c
  · cases na
    · go_enter Try.func41, Try.ntmps41
      go_wp2_with fail
      refine (HC).mono ?_
      rintro e w1 ⟨rfl, k1⟩
      go_wp2_with fail
      refine (HA _ k1).mono ?_
      rintro e w2 ⟨rfl, k2⟩
      have k2 := k1.on k2
      clear k1
      have KK := Lib.hid k2
      clear k2
      go_wp2_with fail
      go_ret
      exact ⟨rfl, KK.out⟩
    · go_enter Try.func41, Try.ntmps41
      go_wp2_with fail
      refine (HC).mono ?_
      rintro e w1 ⟨rfl, k1⟩
      go_wp2_with fail
      refine (HA _ k1).mono ?_
      rintro e w2 ⟨rfl, k2⟩
      have k2 := k1.on k2
      clear k1
      go_wp2_with fail
      refine (HB _ k2).mono ?_
      rintro e w3 ⟨rfl, k3⟩
      have k3 := k2.on k3
      clear k2
      have KK := Lib.hid k3
      clear k3
      go_wp2_with fail
      go_ret
      exact ⟨rfl, KK.out⟩
  · go_enter Try.func41, Try.ntmps41
    go_wp2_with fail
    refine (HC).mono ?_
    rintro e w1 ⟨rfl, k1⟩
    have KK := Lib.hid k1
    clear k1
    go_wp2_with fail
    go_ret
    exact ⟨rfl, KK.out⟩
def numbP (L : List TyV) (i : Int) : Bool := (rangeP L i).2.2 || kindP L i == 6
theorem numbered_any {w : World} {t g cap : Nat} {L : List TyV} (h : Tab w t g cap L) (hk : ∀ j, 0 ≤ (atP L j).k ∧ (atP L j).k ≤ 255) (i : Int) : Calls Try.prog 39 #[.pointer (some ⟨t, 0, none⟩), .int .i64 i] w fun e w' => e = .returned (.bool (numbP L i)) ∧ Bl w w' := by
  have HO := tordinal_any h i (hk _)
  have HKI := fun w1 (k : Bl w w1) => kind_any (h.on k) i
  unfold numbP
  generalize (rangeP L i).2.2 = o at *
  generalize kindP L i = k at *
  clear h hk
  cases o
  · go_enter Try.func39, Try.ntmps39
    go_wp2_with fail
    refine (HO).mono ?_
    rintro e w1 ⟨rfl, k1⟩
    go_wp2_with fail
    refine (HKI _ k1).mono ?_
    rintro e w2 ⟨rfl, k2⟩
    have k2 := k1.on k2
    clear k1
    have KK := Lib.hid k2
    clear k2
    go_wp2_with fail
    go_ret
    exact ⟨rfl, KK.out⟩
  · go_enter Try.func39, Try.ntmps39
    go_wp2_with fail
    refine (HO).mono ?_
    rintro e w1 ⟨rfl, k1⟩
    have KK := Lib.hid k1
    clear k1
    go_wp2_with fail
    go_ret
    exact ⟨rfl, KK.out⟩
theorem within_yes {w : World} {t g cap : Nat} {L : List TyV} (h : Tab w t g cap L) (hk : ∀ j, 0 ≤ (atP L j).k ∧ (atP L j).k ≤ 255) (i n : Int) (hr : (rangeP L i).2.2 = true) (h1 : (rangeP L i).1 ≤ n) (h2 : n ≤ (rangeP L i).2.1) : Calls Try.prog 40 #[.pointer (some ⟨t, 0, none⟩), .int .i64 i, .int .i64 n] w fun e w' => e = .returned (.bool true) ∧ Bl w w' := by
  have HR := range_any h i (hk _)
  generalize rangeP L i = r at *
  obtain ⟨r1, r2, r3⟩ := r
  simp only at hr h1 h2 HR
  subst hr
  have d1 : decide (n ≥ r1) = true := decide_eq_true h1
  have d2 : decide (n ≤ r2) = true := decide_eq_true h2
  clear h hk h1 h2
  go_enter Try.func40, Try.ntmps40
  go_wp2_with fail
  refine (HR).mono ?_
  rintro e w1 ⟨rfl, k1⟩
  go_wp2_with fail
  go_ret
  exact ⟨rfl, k1⟩
def lettP (L : List TyV) (a b : Int) : Bool := kindP L (baseP L a) == 4 && kindP L b == 6
theorem lettered_any {w : World} {t g cap : Nat} {L : List TyV} (h : Tab w t g cap L) (a b : Int) : Calls Try.prog 42 #[.pointer (some ⟨t, 0, none⟩), .int .i64 a, .int .i64 b] w fun e w' => e = .returned (.bool (lettP L a b)) ∧ Bl w w' := by
  have HB := base_any h a
  have HA := fun w1 (k : Bl w w1) => kind_any (h.on k) (baseP L a)
  have HC := fun w1 (k : Bl w w1) => kind_any (h.on k) b
  unfold lettP
  generalize baseP L a = ba at *
  generalize kindP L ba = ka at *
  generalize kindP L b = kb at *
  clear h
  cases h4 : (ka == 4)
  · go_enter Try.func42, Try.ntmps42
    go_wp2_with fail
    refine (HB).mono ?_
    rintro e w1 ⟨rfl, k1⟩
    go_wp2_with fail
    refine (HA _ k1).mono ?_
    rintro e w2 ⟨rfl, k2⟩
    have k2 := k1.on k2
    clear k1
    have KK := Lib.hid k2
    clear k2
    go_wp2_with fail
    go_ret
    exact ⟨rfl, KK.out⟩
  · go_enter Try.func42, Try.ntmps42
    go_wp2_with fail
    refine (HB).mono ?_
    rintro e w1 ⟨rfl, k1⟩
    go_wp2_with fail
    refine (HA _ k1).mono ?_
    rintro e w2 ⟨rfl, k2⟩
    have k2 := k1.on k2
    clear k1
    go_wp2_with fail
    refine (HC _ k2).mono ?_
    rintro e w3 ⟨rfl, k3⟩
    have k3 := k2.on k3
    clear k2
    have KK := Lib.hid k3
    clear k3
    go_wp2_with fail
    go_ret
    exact ⟨rfl, KK.out⟩
theorem assign_nil {w : World} {t g cap : Nat} {L : List TyV} (h : Tab w t g cap L) (hk : ∀ j, 0 ≤ (atP L j).k ∧ (atP L j).k ≤ 255) (a b : Int) (al : Bool) (hal : (kindP L a == 16) = true → (baseP L a == baseP L b) = false → ∀ w1, Bl w w1 → Calls Try.prog 24 #[.pointer (some ⟨t, 0, none⟩), .int .i64 a, .int .i64 b] w1 fun e w' => e = .returned (.bool al) ∧ Bl w1 w')
    (e0 : (kindP L a == 0) = false) (e11 : (kindP L a == 11) = false) (e5 : (kindP L a == 5) = false) (e6 : (kindP L a == 6) = false) (e7 : (kindP L a == 7) = false) : Calls Try.prog 26 #[.pointer (some ⟨t, 0, none⟩), .int .i64 a, .int .i64 b, .nilIface] w fun e w' => e = .returned (.bool (fitsP L a b al)) ∧ Bl w w' := by
  have HKA := kind_any h a
  have HN := fun w1 => tnum (tellP .none) .nilIface w1 (fun w2 => tell_none w2)
  rw [show (tellP .none).num = false from rfl] at HN
  simp only [Bool.false_eq_true, if_false] at HN
  have HLN := leng_nil
  have HF := fun w1 (k : Bl w w1) => fits_any (h.on k) a b al (fun h1 h2 w2 k2 => hal h1 h2 w2 (k.on k2))
  generalize fitsP L a b al = f at *
  generalize kindP L a = k at *
  clear h hk hal
  go_enter Try.func26, Try.ntmps26
  go_wp2_with fail
  refine (HKA).mono ?_
  rintro e w1 ⟨rfl, k1⟩
  go_wp2_with fail
  refine (HN _).mono ?_
  rintro e w2 ⟨rfl, k2⟩
  have k2 := k1.on k2
  clear k1
  go_wp2_with fail
  refine (HLN _).mono ?_
  rintro e w3 ⟨rfl, k3⟩
  have k3 := k2.on k3
  clear k2
  go_wp2_with fail
  refine (HF _ k3).mono ?_
  rintro e w4 ⟨rfl, k4⟩
  have k4 := k3.on k4
  clear k3
  have KK := Lib.hid k4
  clear k4
  go_wp2_with fail
  go_ret
  exact ⟨rfl, KK.out⟩
theorem assign_char {w : World} {t g cap : Nat} {L : List TyV} (h : Tab w t g cap L) (hk : ∀ j, 0 ≤ (atP L j).k ∧ (atP L j).k ≤ 255) (a b : Int) (v : Value) (n : Int) (HN : ∀ w1, Calls Try.prog 38 #[v] w1 fun e w' => e = .returned (.tuple #[.int .i64 n, .bool true]) ∧ Bl w1 w')
    (h4 : kindP L a = 4) (h1 : numbP L b = true) (h2 : (rangeP L a).2.2 = true) (h3 : (rangeP L a).1 ≤ n) (h5 : n ≤ (rangeP L a).2.1) (h6 : fitsP L a b false = false) (h7 : lettP L a b = true) : Calls Try.prog 26 #[.pointer (some ⟨t, 0, none⟩), .int .i64 a, .int .i64 b, v] w fun e w' => e = .returned (.bool true) ∧ Bl w w' := by
  have HKA := kind_any h a
  have HNB := fun w1 (k : Bl w w1) => numbered_any (h.on k) hk b
  have HO := fun w1 (k : Bl w w1) => tordinal_any (h.on k) a (hk _)
  have HW := fun w1 (k : Bl w w1) => within_yes (h.on k) hk a n h2 h3 h5
  have HF := fun w1 (k : Bl w w1) => fits_any (h.on k) a b false (fun h1 => by rw [h4] at h1; cases h1)
  have HL := fun w1 (k : Bl w w1) => lettered_any (h.on k) a b
  rw [h4] at HKA
  rw [h1] at HNB
  rw [h2] at HO
  rw [h6] at HF
  rw [h7] at HL
  clear h hk h1 h2 h3 h4 h5 h6 h7
  go_enter Try.func26, Try.ntmps26
  go_wp2_with fail
  refine (HKA).mono ?_
  rintro e w1 ⟨rfl, k1⟩
  go_wp2_with fail
  refine (HN _).mono ?_
  rintro e w2 ⟨rfl, k2⟩
  have k2 := k1.on k2
  clear k1
  go_wp2_with fail
  refine (HNB _ k2).mono ?_
  rintro e w3 ⟨rfl, k3⟩
  have k3 := k2.on k3
  clear k2
  go_wp2_with fail
  refine (HO _ k3).mono ?_
  rintro e w4 ⟨rfl, k4⟩
  have k4 := k3.on k4
  clear k3
  go_wp2_with fail
  refine (HW _ k4).mono ?_
  rintro e w5 ⟨rfl, k5⟩
  have k5 := k4.on k5
  clear k4
  go_wp2_with fail
  refine (HF _ k5).mono ?_
  rintro e w6 ⟨rfl, k6⟩
  have k6 := k5.on k6
  clear k5
  go_wp2_with fail
  refine (HL _ k6).mono ?_
  rintro e w7 ⟨rfl, k7⟩
  have k7 := k6.on k7
  clear k6
  have KK := Lib.hid k7
  clear k7
  go_wp2_with fail
  go_ret
  exact ⟨rfl, KK.out⟩
end Go.Proofs.Ytepfknfadpkigaa
