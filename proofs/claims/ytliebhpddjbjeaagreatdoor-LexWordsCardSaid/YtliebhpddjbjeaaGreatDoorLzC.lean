/- Package lex, walked: a token of a kind and a text; names. -/
import Derived.Test.YtliebhpddjbjeaaGreatDoorLzB
namespace Go.Proofs.YtliebhpddjbjeaaGreatDoor
open Go.RowKit
set_option maxHeartbeats 1000000
set_option maxRecDepth 100000
set_option linter.unusedVariables false

theorem zClone_any (s : ByteArray) (hs : s.size ≤ 1048576) (w : World) :
    Calls Tryz.prog 80 #[.string s] w fun e w' => e = .returned (.string s) ∧ Below w.heap.size w w' := by
  have HC := fun w => Tryz.stringslite_Clone s w (by omega)
  go_enter Tryz.func80, Tryz.ntmps80
  go_wp2_with fail
  refine (HC _).mono ?_
  rintro e w1 ⟨rfl, hb⟩
  go_wp2_with fail
  go_ret
  exact ⟨rfl, hb⟩
theorem str_self (s : ByteArray) : s = ⟨s.data.toList.toArray⟩ := by apply ByteArray.ext; simp
theorem tok_self (k : Nat) (s : ByteArray) (p q : Value) : tokV ⟨k, s.data.toList, 0⟩ p q = .agg #[.int .u8 k, p, q, .string s, .int .i64 0] := by unfold tokV; rw [← str_self s]
theorem below_tok (w : World) : Below w.heap.size w (w.alloc (.cells #[.int .u8 0, .complex .f64 0 0, .complex .f64 0 0, .string ⟨#[]⟩, .int .i64 0] 51)) := below_new _ _
theorem ztoken_any (k : Nat) (s : ByteArray) (hs : s.size ≤ 1048576) (w : World) :
    Calls Tryz.prog 115 #[.int .u8 k, .string s] w fun e w' => e = .returned (tokV ⟨if wordB s.data.toList then 6 else k, s.data.toList, 0⟩ (.complex .f64 0 0) (.complex .f64 0 0)) ∧ Below w.heap.size w w' := by
  have hsc := fun w a x y m => store_cx (P := Tryz.prog) w a .f64 x y m
  have HW := fun w => zWord_any s w
  have HC := fun w => zClone_any s hs w
  have D0 := below_tok w
  have A0 := Fv.new w (.int .u8 0) (.complex .f64 0 0) (.complex .f64 0 0) (.string ⟨#[]⟩) (.int .i64 0) 51 w.heap.size rfl
  have hlt0 : w.heap.size < (w.alloc (.cells #[.int .u8 0, .complex .f64 0 0, .complex .f64 0 0, .string ⟨#[]⟩, .int .i64 0] 51)).heap.size := by simp
  cases hz : wordB s.data.toList
  · rw [hz] at HW
    go_enter Tryz.func115, Tryz.ntmps115
    go_wp2_with fail
    refine (HW _).mono ?_
    rintro e w1 ⟨rfl, rfl⟩
    go_wp2_with fail
    generalize w.alloc (.cells #[.int .u8 0, .complex .f64 0 0, .complex .f64 0 0, .string ⟨#[]⟩, .int .i64 0] 51) = w0 at D0 A0 hlt0 ⊢
    refine (HC _).mono ?_
    rintro e w2 ⟨rfl, B1⟩
    have A1 := A0.below B1 hlt0
    have D1 := bt D0 B1
    have g0 := A1.c0
    have g1 := A1.c1
    have g2 := A1.c2
    have g3 := A1.c3
    have g4 := A1.c4
    have e0 := A1.f0
    have e1 := A1.f1
    have e2 := A1.f2
    have e3 := A1.f3
    have e4 := A1.f4
    clear HW HC
    go_wp2_with fail
    have R := (((((A1.set0 (.int .u8 k)).set1 (.complex .f64 0 0)).set2 (.complex .f64 0 0)).set3 (.string s)).set4 (.int .i64 0))
    have r0 := R.c0
    have r1 := R.c1
    have r2 := R.c2
    have r3 := R.c3
    have r4 := R.c4
    refine bodyPost_ret (v := .agg #[.int .u8 k, .complex .f64 0 0, .complex .f64 0 0, .string s, .int .i64 0]) (by simp [results, Tryz.results115, go_sem, r0, r1, r2, r3, r4]) rfl ?_
    exact ⟨congrArg Ending.returned (tok_self k s _ _).symm, below_set5 D1 (Nat.le_refl _) _ _ _ _ _⟩
  · rw [hz] at HW
    go_enter Tryz.func115, Tryz.ntmps115
    go_wp2_with fail
    refine (HW _).mono ?_
    rintro e w1 ⟨rfl, rfl⟩
    go_wp2_with fail
    generalize w.alloc (.cells #[.int .u8 0, .complex .f64 0 0, .complex .f64 0 0, .string ⟨#[]⟩, .int .i64 0] 51) = w0 at D0 A0 hlt0 ⊢
    refine (HC _).mono ?_
    rintro e w2 ⟨rfl, B1⟩
    have A1 := A0.below B1 hlt0
    have D1 := bt D0 B1
    have g0 := A1.c0
    have g1 := A1.c1
    have g2 := A1.c2
    have g3 := A1.c3
    have g4 := A1.c4
    have e0 := A1.f0
    have e1 := A1.f1
    have e2 := A1.f2
    have e3 := A1.f3
    have e4 := A1.f4
    clear HW HC
    go_wp2_with fail
    have R := (((((A1.set0 (.int .u8 6)).set1 (.complex .f64 0 0)).set2 (.complex .f64 0 0)).set3 (.string s)).set4 (.int .i64 0))
    have r0 := R.c0
    have r1 := R.c1
    have r2 := R.c2
    have r3 := R.c3
    have r4 := R.c4
    refine bodyPost_ret (v := .agg #[.int .u8 6, .complex .f64 0 0, .complex .f64 0 0, .string s, .int .i64 0]) (by simp [results, Tryz.results115, go_sem, r0, r1, r2, r3, r4]) rfl ?_
    exact ⟨congrArg Ending.returned (tok_self 6 s _ _).symm, below_set5 D1 (Nat.le_refl _) _ _ _ _ _⟩
theorem zname_tok (s : ByteArray) (hs : s.size ≤ 1048576) (hl : isLt (s.data.toList.headD 0) = true) (w : World) :
    Calls Tryz.prog 111 #[.string s] w fun e w' => e = .returned (oneV (oneL s.data.toList)) ∧ Below w.heap.size w w' := by
  have hsc := fun w a x y m => store_cx (P := Tryz.prog) w a .f64 x y m
  have HN := fun w => count_name s hs w
  have D0 := below_tok w
  have A0 := Fv.new w (.int .u8 0) (.complex .f64 0 0) (.complex .f64 0 0) (.string ⟨#[]⟩) (.int .i64 0) 51 w.heap.size rfl
  have hlt0 : w.heap.size < (w.alloc (.cells #[.int .u8 0, .complex .f64 0 0, .complex .f64 0 0, .string ⟨#[]⟩, .int .i64 0] 51)).heap.size := by simp
  have hpre : s.data.toList.takeWhile isAn = s.data.toList.take (s.data.toList.takeWhile isAn).length := List.prefix_iff_eq_take.1 (List.takeWhile_prefix _)
  have hk : (s.data.toList.takeWhile isAn).length ≤ s.size := by rw [← bytes_of]; exact (List.takeWhile_prefix _).length_le
  have HO : Hid (oneL s.data.toList = if 32 < (s.data.toList.takeWhile isAn).length then (none, 0, 5) else (some ⟨if wordB (s.data.toList.takeWhile isAn) then 6 else 1, s.data.toList.takeWhile isAn, 0⟩, (s.data.toList.takeWhile isAn).length, 0)) := Lib.hid (by
    unfold oneL; rw [if_pos hl])
  rw [hpre] at HO
  rw [List.length_take, Nat.min_eq_left (by rw [bytes_of]; exact hk)] at HO
  clear hpre
  generalize (s.data.toList.takeWhile isAn).length = k at HN hk HO
  by_cases h32 : 32 < k
  · have HT : Hid (oneL s.data.toList = (none, 0, 5)) := Lib.hid (by rw [HO.out, if_pos h32])
    have hq : (32 : Int) < (k : Int) := by omega
    have g0 := A0.c0
    have g1 := A0.c1
    have g2 := A0.c2
    have g3 := A0.c3
    have g4 := A0.c4
    have e0 := A0.f0
    have e1 := A0.f1
    have e2 := A0.f2
    have e3 := A0.f3
    have e4 := A0.f4
    clear HO
    go_enter Tryz.func111, Tryz.ntmps111
    go_wp2_with fail
    refine (HN _).mono ?_
    rintro e w1 ⟨rfl, rfl⟩
    generalize w.alloc (.cells #[.int .u8 0, .complex .f64 0 0, .complex .f64 0 0, .string ⟨#[]⟩, .int .i64 0] 51) = w0 at D0 A0 hlt0 g0 g1 g2 g3 g4 e0 e1 e2 e3 e4 ⊢
    go_wp2_with fail
    have R := (((((A0.set0 (.int .u8 0)).set1 (.complex .f64 0 0)).set2 (.complex .f64 0 0)).set3 (.string ⟨#[]⟩)).set4 (.int .i64 0))
    have r0 := R.c0
    have r1 := R.c1
    have r2 := R.c2
    have r3 := R.c3
    have r4 := R.c4
    refine bodyPost_ret (v := .tuple #[.agg #[.int .u8 0, .complex .f64 0 0, .complex .f64 0 0, .string ⟨#[]⟩, .int .i64 0], .int .i64 0, .int .i64 5]) (by simp [results, Tryz.results111, go_sem, r0, r1, r2, r3, r4]) rfl ?_
    exact ⟨by rw [HT.out]; rfl, below_set5 D0 (Nat.le_refl _) _ _ _ _ _⟩
  · have hq : ¬ (32 : Int) < (k : Int) := by omega
    have hx1 : (0 : Int) ≤ (k : Int) := by omega
    have hx2 : (k : Int) ≤ (s.size : Int) := by omega
    have hel := extract_take' s k hk
    have hes : (s.extract 0 k).size ≤ 1048576 := by rw [← bytes_of, hel, List.length_take]; omega
    have HW := fun w => ztoken_any 1 (s.extract 0 k) hes w
    rw [hel] at HW
    have HX := Lib.hid (str_of _ _ hel)
    have HO2 : Hid (oneL s.data.toList = (some ⟨if wordB (s.data.toList.take k) then 6 else 1, s.data.toList.take k, 0⟩, k, 0)) := Lib.hid (by rw [HO.out, if_neg h32])
    generalize (if wordB (s.data.toList.take k) then 6 else 1) = kk at HW HO2
    clear HO hel
    have HWn : ∀ w, Calls Tryz.prog 115 #[.int .u8 1, .string (s.extract 0 k)] w fun e w' => e = .returned (.agg #[.int .u8 kk, .complex .f64 0 0, .complex .f64 0 0, .string (s.extract 0 k), .int .i64 0]) ∧ Below w.heap.size w w' := by
      intro w; have := HW w; unfold tokV at this; rw [← HX.out] at this; exact this
    clear HW
    go_enter Tryz.func111, Tryz.ntmps111
    go_wp2_with fail
    refine (HN _).mono ?_
    rintro e w1 ⟨rfl, rfl⟩
    go_wp2_with fail
    generalize w.alloc (.cells #[.int .u8 0, .complex .f64 0 0, .complex .f64 0 0, .string ⟨#[]⟩, .int .i64 0] 51) = w0 at D0 A0 hlt0 ⊢
    refine (HWn _).mono ?_
    rintro e w2 ⟨rfl, B1⟩
    have A1 := A0.below B1 hlt0
    have D1 := bt D0 B1
    have g0 := A1.c0
    have g1 := A1.c1
    have g2 := A1.c2
    have g3 := A1.c3
    have g4 := A1.c4
    have e0 := A1.f0
    have e1 := A1.f1
    have e2 := A1.f2
    have e3 := A1.f3
    have e4 := A1.f4
    clear HWn HN
    go_wp2_with fail
    have R := (((((A1.set0 (.int .u8 kk)).set1 (.complex .f64 0 0)).set2 (.complex .f64 0 0)).set3 (.string (s.extract 0 k))).set4 (.int .i64 0))
    have r0 := R.c0
    have r1 := R.c1
    have r2 := R.c2
    have r3 := R.c3
    have r4 := R.c4
    refine bodyPost_ret (v := .tuple #[.agg #[.int .u8 kk, .complex .f64 0 0, .complex .f64 0 0, .string (s.extract 0 k), .int .i64 0], .int .i64 k, .int .i64 0]) (by simp [results, Tryz.results111, go_sem, r0, r1, r2, r3, r4]) rfl ?_
    exact ⟨by rw [HO2.out, HX.out]; rfl, below_set5 D1 (Nat.le_refl _) _ _ _ _ _⟩
end Go.Proofs.YtliebhpddjbjeaaGreatDoor
