/- Package lex, walked: the token at the beginning of a source. -/
import Derived.Test.YtliebhpddjbjeaaGreatDoorLzH
namespace Go.Proofs.YtliebhpddjbjeaaGreatDoor
open Go.RowKit
set_option maxHeartbeats 2000000
set_option maxRecDepth 100000
set_option linter.unusedVariables false

theorem last_snoc (l : List UInt8) (x : UInt8) : (l ++ [x]).getLast? = some x := by simp
theorem num_H (l : List UInt8) : num (l ++ [72]) = (valS 16 65535 l).map (⟨2, [], ·⟩) := by
  unfold num
  rw [if_pos (last_snoc l 72), List.dropLast_concat]
theorem num_B (l : List UInt8) : num (l ++ [66]) = (valS 8 65535 l).map (⟨2, [], ·⟩) := by
  unfold num
  rw [if_neg (by rw [last_snoc]; decide), vals_last 10 65535 66 (by decide) l]
  show (if (l ++ [66]).getLast? = some 66 then _ else _) = _
  rw [if_pos (last_snoc l 66), List.dropLast_concat]
theorem num_C (l : List UInt8) : num (l ++ [67]) = (valS 8 255 l).map (⟨3, [], ·⟩) := by
  unfold num
  rw [if_neg (by rw [last_snoc]; decide), vals_last 10 65535 67 (by decide) l]
  show (if (l ++ [67]).getLast? = some 66 then _ else if (l ++ [67]).getLast? = some 67 then _ else _) = _
  rw [if_neg (by rw [last_snoc]; decide), if_pos (last_snoc l 67), List.dropLast_concat]
theorem num_D (l : List UInt8) (x : UInt8) (h1 : x ≠ 72) (h2 : x ≠ 66) (h3 : x ≠ 67) : num (l ++ [x]) = (valS 10 65535 (l ++ [x])).map (⟨2, [], ·⟩) := by
  have e : ∀ k : UInt8, x ≠ k → ¬ (l ++ [x]).getLast? = some k := fun k hk h => by rw [last_snoc] at h; exact hk (Option.some.inj h)
  unfold num
  rw [if_neg (e 72 h1)]
  cases hv : valS 10 65535 (l ++ [x]) with
  | some n => rfl
  | none =>
    show (if (l ++ [x]).getLast? = some 66 then _ else if (l ++ [x]).getLast? = some 67 then _ else _) = _
    rw [if_neg (e 66 h2), if_neg (e 67 h3)]; rfl
theorem zpre1 (s : ByteArray) (k : Nat) (hk : k ≤ s.size) (c : UInt8) (w : World) :
    Calls Tryz.prog 108 #[.string (s.extract k s.size), .string ⟨#[c]⟩] w fun e w' => e = .returned (.bool (decide ((s.data.toList.drop k).head? = some c))) ∧ w' = w := by
  have h := Tryz.strings_HasPrefix (s.extract k s.size) ⟨#[c]⟩ w
  rw [ext_drop s k hk, show (ByteArray.mk #[c]).data.toList = [c] from rfl] at h
  have e : Lib.hasPrefix (s.data.toList.drop k) [c] = decide ((s.data.toList.drop k).head? = some c) := by
    unfold Lib.hasPrefix
    cases s.data.toList.drop k with
    | nil => simp
    | cons a r =>
      by_cases h : c = a
      · subst h; simp [List.isPrefixOf]
      · rw [decide_eq_false (fun e => by simp at e; exact h e.symm)]
        simp [List.isPrefixOf, h]
  rw [e] at h
  exact h
theorem oneV_num (k : Nat) (v : Int) (m : Nat) : oneV (some ⟨k, [], v⟩, m, 0) = .tuple #[.agg #[.int .u8 k, .complex .f64 0 0, .complex .f64 0 0, .string ⟨#[]⟩, .int .i64 v], .int .i64 (m : Int), .int .i64 0] := rfl
theorem take_last (s : ByteArray) (d : Nat) (h : d < s.size) : s.data.toList.take (d + 1) = s.data.toList.take d ++ [s[d]] := by
  rw [List.take_add_one, byte_get s d h]; rfl
theorem znumber_any (s : ByteArray) (hs : s.size ≤ 1048576) (c : UInt8) (r : List UInt8) (hu : s.data.toList = c :: r) (hc : isDg c = true) (w : World) (hE : Env w) :
    Calls Tryz.prog 112 #[.string s] w fun e w' => e = .returned (oneV (oneL (c :: r))) ∧ Below w.heap.size w w' := by
  have HC := fun w => count_hex s hs w
  have hlen := bytes_of s
  have hpre : s.data.toList.takeWhile isHx = s.data.toList.take (s.data.toList.takeWhile isHx).length := List.prefix_iff_eq_take.1 (List.takeWhile_prefix _)
  have hle : (s.data.toList.takeWhile isHx).length ≤ s.size := by rw [← hlen]; exact (List.takeWhile_prefix _).length_le
  have hpos : 1 ≤ (s.data.toList.takeWhile isHx).length := by
    rw [hu, List.takeWhile_cons, if_pos (isDg_hx c hc)]; simp
  have hall := tw_all isHx s.data.toList
  have hnS : numS s.data.toList = if (s.data.toList.drop (s.data.toList.takeWhile isHx).length).head? = some 72 then s.data.toList.takeWhile isHx ++ [72] else s.data.toList.takeWhile isHx := rfl
  have hone := oneL_num c r hc
  rw [← hu] at hone
  rw [← hu]
  rw [hpre] at hall
  generalize hn : (s.data.toList.takeWhile isHx).length = n at *
  rw [hpre] at hnS
  clear hpre
  have HP := fun w => zpre1 s n hle 72 w
  by_cases hH : (s.data.toList.drop n).head? = some 72
  · rw [decide_eq_true hH] at HP
    rw [if_pos hH] at hnS
    have hlt : n < s.size := by
      rcases Nat.lt_or_ge n s.size with q | q
      · exact q
      · rw [List.drop_of_length_le (by omega)] at hH; cases hH
    have hx : s[n] = 72 := by
      rw [byte_drop s n hlt] at hH
      exact Option.some.inj hH
    have q72 : ((s[n].toNat : Int) == 72) = true := by rw [hx]; rfl
    have hel := extract_take' s n hle
    have hsz : (s.extract 0 n).size = n := by rw [← bytes_of, hel, List.length_take]; omega
    have HU : ∀ w', Below w.heap.size w w' → Calls Tryz.prog 132 #[.string (s.extract 0 n), .int .i64 16, .int .i64 16] w' (PubPost (valS 16 65535 (s.data.toList.take n)) w') := fun w' hb =>
      pub_of _ (by omega) 16 16 _ w' (hE.below hb) (fun w => by
        have := ipu_16_16 (s.extract 0 n) (by omega) (by omega) (by rw [hel]; exact hall) w
        rw [hel] at this; exact this)
    rw [hnS, num_H] at hone
    have hln : (s.data.toList.take n ++ [72]).length = n + 1 := by rw [List.length_append, List.length_take]; simp; omega
    rw [hln] at hone
    cases hv : valS 16 65535 (s.data.toList.take n) with
    | some v =>
      have hvb := valS_bounds 16 65535 (by omega) _ hall v hv
      rw [hv] at hone HU
      rw [hone]
      exact zn_H_ok s hs n hlt v hvb.1 hvb.2 w HC HP q72 (fun w' hb => (HU w' hb).mono (fun e w'' h => by
        rcases h with ⟨⟨m, hm, rfl⟩ | ⟨hm, _⟩, hb2⟩
        · rw [← Option.some.inj hm]; exact ⟨rfl, hb2⟩
        · cases hm))
    | none =>
      rw [hv] at hone HU
      rw [hone]
      exact zn_H_no s hs n hlt w HC HP q72 (fun w' hb => (HU w' hb).mono (fun e w'' h => by
        rcases h with ⟨⟨m, hm, _⟩ | ⟨_, h⟩, hb2⟩
        · cases hm
        · exact ⟨h, hb2⟩))
  · rw [decide_eq_false hH] at HP
    rw [if_neg hH] at hnS
    obtain ⟨d, rfl⟩ : ∃ d, n = d + 1 := ⟨n - 1, by omega⟩
    have hlt : d < s.size := by omega
    have htl := take_last s d hlt
    have hxh : isHx s[d] = true := hall _ (by rw [htl]; simp)
    have hall2 : ∀ b ∈ s.data.toList.take d, isHx b = true := fun b hb => hall b (by rw [htl]; exact List.mem_append_left _ hb)
    have hn72 : s[d] ≠ 72 := fun e => by rw [e] at hxh; revert hxh; decide
    have q72 : ((s[d].toNat : Int) == 72) = false := byte_no _ 72 hn72
    have hel := extract_take' s d (by omega)
    have hel1 := extract_take' s (d + 1) hle
    have hsz : (s.extract 0 d).size = d := by rw [← bytes_of, hel, List.length_take]; omega
    have hsz1 : (s.extract 0 (d + 1)).size = d + 1 := by rw [← bytes_of, hel1, List.length_take]; omega
    have hd0 : s[d] = 66 ∨ s[d] = 67 → d ≠ 0 := fun h e => by
      subst e
      have : s[0] = c := by
        have h0 := byte_get s 0 hlt
        rw [hu] at h0
        exact (Option.some.inj h0).symm
      rw [this] at h
      rcases h with rfl | rfl <;> (revert hc; decide)
    have HCn : ∀ w, Calls Tryz.prog 40 #[.string s, .func (.func 131) #[] #[]] w fun e w' => e = .returned (.int .i64 ((d : Int) + 1)) ∧ w' = w := fun w => by
      have := HC w
      rw [show ((d + 1 : Nat) : Int) = (d : Int) + 1 from rfl] at this; exact this
    have hln : (s.data.toList.take (d + 1)).length = d + 1 := by rw [List.length_take]; omega
    rw [hnS, hln, htl] at hone
    by_cases hx : s[d] = 66
    · have q66 : ((s[d].toNat : Int) == 66) = true := by rw [hx]; rfl
      have HU : ∀ w', Below w.heap.size w w' → Calls Tryz.prog 132 #[.string (s.extract 0 d), .int .i64 8, .int .i64 16] w' (PubPost (valS 8 65535 (s.data.toList.take d)) w') := fun w' hb =>
        pub_of _ (by omega) 8 16 _ w' (hE.below hb) (fun w => by
          have := ipu_8_16 (s.extract 0 d) (by have := hd0 (.inl hx); omega) (by omega) (by rw [hel]; exact hall2) w
          rw [hel] at this; exact this)
      rw [hx, num_B] at hone
      cases hv : valS 8 65535 (s.data.toList.take d) with
      | some v =>
        have hvb := valS_bounds 8 65535 (by omega) _ hall2 v hv
        rw [hv] at hone HU
        rw [hone]
        exact zn_B_ok s hs d hlt v hvb.1 (by omega) w HCn HP q72 q66 (fun w' hb => (HU w' hb).mono (fun e w'' h => by
          rcases h with ⟨⟨m, hm, rfl⟩ | ⟨hm, _⟩, hb2⟩
          · rw [← Option.some.inj hm]; exact ⟨rfl, hb2⟩
          · cases hm))
      | none =>
        rw [hv] at hone HU
        rw [hone]
        exact zn_B_no s hs d hlt w HCn HP q72 q66 (fun w' hb => (HU w' hb).mono (fun e w'' h => by
          rcases h with ⟨⟨m, hm, _⟩ | ⟨_, h⟩, hb2⟩
          · cases hm
          · exact ⟨h, hb2⟩))
    · have hx66 := hx
      clear hx
      have q66 : ((s[d].toNat : Int) == 66) = false := byte_no _ 66 hx66
      by_cases hx : s[d] = 67
      · have q67 : ((s[d].toNat : Int) == 67) = true := by rw [hx]; rfl
        have HU : ∀ w', Below w.heap.size w w' → Calls Tryz.prog 132 #[.string (s.extract 0 d), .int .i64 8, .int .i64 8] w' (PubPost (valS 8 255 (s.data.toList.take d)) w') := fun w' hb =>
          pub_of _ (by omega) 8 8 _ w' (hE.below hb) (fun w => by
            have := ipu_8_8 (s.extract 0 d) (by have := hd0 (.inr hx); omega) (by omega) (by rw [hel]; exact hall2) w
            rw [hel] at this; exact this)
        rw [hx, num_C] at hone
        cases hv : valS 8 255 (s.data.toList.take d) with
        | some v =>
          have hvb := valS_bounds 8 255 (by omega) _ hall2 v hv
          rw [hv] at hone HU
          rw [hone]
          exact zn_C_ok s hs d hlt v hvb.1 (by omega) w HCn HP q72 q66 q67 (fun w' hb => (HU w' hb).mono (fun e w'' h => by
            rcases h with ⟨⟨m, hm, rfl⟩ | ⟨hm, _⟩, hb2⟩
            · rw [← Option.some.inj hm]; exact ⟨rfl, hb2⟩
            · cases hm))
        | none =>
          rw [hv] at hone HU
          rw [hone]
          exact zn_C_no s hs d hlt w HCn HP q72 q66 q67 (fun w' hb => (HU w' hb).mono (fun e w'' h => by
            rcases h with ⟨⟨m, hm, _⟩ | ⟨_, h⟩, hb2⟩
            · cases hm
            · exact ⟨h, hb2⟩))
      · have hx67 := hx
        have q67 : ((s[d].toNat : Int) == 67) = false := byte_no _ 67 hx67
        have HU : ∀ w', Below w.heap.size w w' → Calls Tryz.prog 132 #[.string (s.extract 0 (d + 1)), .int .i64 10, .int .i64 16] w' (PubPost (valS 10 65535 (s.data.toList.take (d + 1))) w') := fun w' hb =>
          pub_of _ (by omega) 10 16 _ w' (hE.below hb) (fun w => by
            have := ipu_10_16 (s.extract 0 (d + 1)) (by omega) (by omega) (by rw [hel1]; exact hall) w
            rw [hel1] at this; exact this)
        rw [num_D _ _ hn72 hx66 hx67, ← htl] at hone
        cases hv : valS 10 65535 (s.data.toList.take (d + 1)) with
        | some v =>
          have hvb := valS_bounds 10 65535 (by omega) _ hall v hv
          rw [hv] at hone HU
          rw [hone]
          exact zn_D_ok s hs d hlt v hvb.1 hvb.2 w HCn HP q72 q66 q67 (fun w' hb => (HU w' hb).mono (fun e w'' h => by
            rcases h with ⟨⟨m, hm, rfl⟩ | ⟨hm, _⟩, hb2⟩
            · rw [← Option.some.inj hm]; exact ⟨rfl, hb2⟩
            · cases hm))
        | none =>
          rw [hv] at hone HU
          rw [hone]
          exact zn_D_no s hs d hlt w HCn HP q72 q66 q67 (fun w' hb => (HU w' hb).mono (fun e w'' h => by
            rcases h with ⟨⟨m, hm, _⟩ | ⟨_, h⟩, hb2⟩
            · cases hm
            · exact ⟨h, hb2⟩))
theorem zf_letter (s : ByteArray) (h0 : 0 < s.size) (c : UInt8) (hc : s[0] = c) (K : Nat) (X : ByteArray) (N m x : Int) (w : World) (hl : isLt c = true)
    (H : ∀ w', Below w.heap.size w w' → Calls Tryz.prog 111 #[.string s] w' fun e w'' => e = .returned (.tuple #[.agg #[.int .u8 K, .complex .f64 0 0, .complex .f64 0 0, .string X, .int .i64 N], .int .i64 m, .int .i64 x]) ∧ Below w'.heap.size w' w'') :
    Calls Tryz.prog 92 #[.string s] w fun e w' => e = .returned (.tuple #[.agg #[.int .u8 K, .complex .f64 0 0, .complex .f64 0 0, .string X, .int .i64 N], .int .i64 m, .int .i64 x]) ∧ Below w.heap.size w w' := by
  have hsc := fun w a x y m => store_cx (P := Tryz.prog) w a .f64 x y m
  have hem : s.toList.isEmpty = false := by rw [empty_test]; exact decide_eq_false (by omega)
  have D0 := below_tok w
  have A0 := Fv.new w (.int .u8 0) (.complex .f64 0 0) (.complex .f64 0 0) (.string ⟨#[]⟩) (.int .i64 0) 51 w.heap.size rfl
  have hlt0 : w.heap.size < (w.alloc (.cells #[.int .u8 0, .complex .f64 0 0, .complex .f64 0 0, .string ⟨#[]⟩, .int .i64 0] 51)).heap.size := by simp
  have hx0 : (0 : Int) < (s.size : Int) := by omega
  have HL := fun w => zletter_any c w
  rw [hl] at HL
  go_enter Tryz.func92, Tryz.ntmps92
  go_wp2_with fail
  refine (HL _).mono ?_
  rintro e w1 ⟨rfl, rfl⟩
  clear HL
  go_wp2_with fail
  generalize w.alloc (.cells #[.int .u8 0, .complex .f64 0 0, .complex .f64 0 0, .string ⟨#[]⟩, .int .i64 0] 51) = w0 at D0 A0 hlt0 ⊢
  refine (H _ D0).mono ?_
  rintro e w1 ⟨rfl, B1⟩
  clear H
  have A1 := A0.below B1 hlt0
  have D1 := bt D0 B1
  have g0 := A1.c0
  have g1 := A1.c1
  have g2 := A1.c2
  have g3 := A1.c3
  have g4 := A1.c4
  have e0 := A1.f0
  have e1 := A1.f1
  have e2 := A1.f2
  have e3 := A1.f3
  have e4 := A1.f4
  go_wp2_with fail
  have R := (((((A1.set0 (.int .u8 K)).set1 (.complex .f64 0 0)).set2 (.complex .f64 0 0)).set3 (.string X)).set4 (.int .i64 N))
  have r0 := R.c0
  have r1 := R.c1
  have r2 := R.c2
  have r3 := R.c3
  have r4 := R.c4
  refine bodyPost_ret (v := .tuple #[.agg #[.int .u8 K, .complex .f64 0 0, .complex .f64 0 0, .string X, .int .i64 N], .int .i64 m, .int .i64 x]) (by simp [results, Tryz.results92, go_sem, r0, r1, r2, r3, r4]) rfl ?_
  exact ⟨rfl, below_set5 D1 (Nat.le_refl _) _ _ _ _ _⟩
theorem zf_digit (s : ByteArray) (h0 : 0 < s.size) (c : UInt8) (hc : s[0] = c) (K : Nat) (X : ByteArray) (N m x : Int) (w : World) (hl : isLt c = false) (hd : isDg c = true)
    (H : ∀ w', Below w.heap.size w w' → Calls Tryz.prog 112 #[.string s] w' fun e w'' => e = .returned (.tuple #[.agg #[.int .u8 K, .complex .f64 0 0, .complex .f64 0 0, .string X, .int .i64 N], .int .i64 m, .int .i64 x]) ∧ Below w'.heap.size w' w'') :
    Calls Tryz.prog 92 #[.string s] w fun e w' => e = .returned (.tuple #[.agg #[.int .u8 K, .complex .f64 0 0, .complex .f64 0 0, .string X, .int .i64 N], .int .i64 m, .int .i64 x]) ∧ Below w.heap.size w w' := by
  have hsc := fun w a x y m => store_cx (P := Tryz.prog) w a .f64 x y m
  have hem : s.toList.isEmpty = false := by rw [empty_test]; exact decide_eq_false (by omega)
  have D0 := below_tok w
  have A0 := Fv.new w (.int .u8 0) (.complex .f64 0 0) (.complex .f64 0 0) (.string ⟨#[]⟩) (.int .i64 0) 51 w.heap.size rfl
  have hlt0 : w.heap.size < (w.alloc (.cells #[.int .u8 0, .complex .f64 0 0, .complex .f64 0 0, .string ⟨#[]⟩, .int .i64 0] 51)).heap.size := by simp
  have hx0 : (0 : Int) < (s.size : Int) := by omega
  have HL := fun w => zletter_any c w
  rw [hl] at HL
  have HD := fun w => zdigit_any c w
  rw [hd] at HD
  go_enter Tryz.func92, Tryz.ntmps92
  go_wp2_with fail
  refine (HL _).mono ?_
  rintro e w1 ⟨rfl, rfl⟩
  clear HL
  go_wp2_with fail
  refine (HD _).mono ?_
  rintro e w1 ⟨rfl, rfl⟩
  clear HD
  go_wp2_with fail
  generalize w.alloc (.cells #[.int .u8 0, .complex .f64 0 0, .complex .f64 0 0, .string ⟨#[]⟩, .int .i64 0] 51) = w0 at D0 A0 hlt0 ⊢
  refine (H _ D0).mono ?_
  rintro e w1 ⟨rfl, B1⟩
  clear H
  have A1 := A0.below B1 hlt0
  have D1 := bt D0 B1
  have g0 := A1.c0
  have g1 := A1.c1
  have g2 := A1.c2
  have g3 := A1.c3
  have g4 := A1.c4
  have e0 := A1.f0
  have e1 := A1.f1
  have e2 := A1.f2
  have e3 := A1.f3
  have e4 := A1.f4
  go_wp2_with fail
  have R := (((((A1.set0 (.int .u8 K)).set1 (.complex .f64 0 0)).set2 (.complex .f64 0 0)).set3 (.string X)).set4 (.int .i64 N))
  have r0 := R.c0
  have r1 := R.c1
  have r2 := R.c2
  have r3 := R.c3
  have r4 := R.c4
  refine bodyPost_ret (v := .tuple #[.agg #[.int .u8 K, .complex .f64 0 0, .complex .f64 0 0, .string X, .int .i64 N], .int .i64 m, .int .i64 x]) (by simp [results, Tryz.results92, go_sem, r0, r1, r2, r3, r4]) rfl ?_
  exact ⟨rfl, below_set5 D1 (Nat.le_refl _) _ _ _ _ _⟩
theorem zf_q39 (s : ByteArray) (h0 : 0 < s.size) (c : UInt8) (hc : s[0] = c) (K : Nat) (X : ByteArray) (N m x : Int) (w : World) (hl : isLt c = false) (hd : isDg c = false) (q39 : ((c.toNat : Int) == 39) = true)
    (H : ∀ w', Below w.heap.size w w' → Calls Tryz.prog 113 #[.string s] w' fun e w'' => e = .returned (.tuple #[.agg #[.int .u8 K, .complex .f64 0 0, .complex .f64 0 0, .string X, .int .i64 N], .int .i64 m, .int .i64 x]) ∧ Below w'.heap.size w' w'') :
    Calls Tryz.prog 92 #[.string s] w fun e w' => e = .returned (.tuple #[.agg #[.int .u8 K, .complex .f64 0 0, .complex .f64 0 0, .string X, .int .i64 N], .int .i64 m, .int .i64 x]) ∧ Below w.heap.size w w' := by
  have hsc := fun w a x y m => store_cx (P := Tryz.prog) w a .f64 x y m
  have hem : s.toList.isEmpty = false := by rw [empty_test]; exact decide_eq_false (by omega)
  have D0 := below_tok w
  have A0 := Fv.new w (.int .u8 0) (.complex .f64 0 0) (.complex .f64 0 0) (.string ⟨#[]⟩) (.int .i64 0) 51 w.heap.size rfl
  have hlt0 : w.heap.size < (w.alloc (.cells #[.int .u8 0, .complex .f64 0 0, .complex .f64 0 0, .string ⟨#[]⟩, .int .i64 0] 51)).heap.size := by simp
  have hx0 : (0 : Int) < (s.size : Int) := by omega
  have HL := fun w => zletter_any c w
  rw [hl] at HL
  have HD := fun w => zdigit_any c w
  rw [hd] at HD
  go_enter Tryz.func92, Tryz.ntmps92
  go_wp2_with fail
  refine (HL _).mono ?_
  rintro e w1 ⟨rfl, rfl⟩
  clear HL
  go_wp2_with fail
  refine (HD _).mono ?_
  rintro e w1 ⟨rfl, rfl⟩
  clear HD
  go_wp2_with fail
  generalize w.alloc (.cells #[.int .u8 0, .complex .f64 0 0, .complex .f64 0 0, .string ⟨#[]⟩, .int .i64 0] 51) = w0 at D0 A0 hlt0 ⊢
  refine (H _ D0).mono ?_
  rintro e w1 ⟨rfl, B1⟩
  clear H
  have A1 := A0.below B1 hlt0
  have D1 := bt D0 B1
  have g0 := A1.c0
  have g1 := A1.c1
  have g2 := A1.c2
  have g3 := A1.c3
  have g4 := A1.c4
  have e0 := A1.f0
  have e1 := A1.f1
  have e2 := A1.f2
  have e3 := A1.f3
  have e4 := A1.f4
  go_wp2_with fail
  have R := (((((A1.set0 (.int .u8 K)).set1 (.complex .f64 0 0)).set2 (.complex .f64 0 0)).set3 (.string X)).set4 (.int .i64 N))
  have r0 := R.c0
  have r1 := R.c1
  have r2 := R.c2
  have r3 := R.c3
  have r4 := R.c4
  refine bodyPost_ret (v := .tuple #[.agg #[.int .u8 K, .complex .f64 0 0, .complex .f64 0 0, .string X, .int .i64 N], .int .i64 m, .int .i64 x]) (by simp [results, Tryz.results92, go_sem, r0, r1, r2, r3, r4]) rfl ?_
  exact ⟨rfl, below_set5 D1 (Nat.le_refl _) _ _ _ _ _⟩
theorem zf_q34 (s : ByteArray) (h0 : 0 < s.size) (c : UInt8) (hc : s[0] = c) (K : Nat) (X : ByteArray) (N m x : Int) (w : World) (hl : isLt c = false) (hd : isDg c = false) (q39 : ((c.toNat : Int) == 39) = false) (q34 : ((c.toNat : Int) == 34) = true)
    (H : ∀ w', Below w.heap.size w w' → Calls Tryz.prog 113 #[.string s] w' fun e w'' => e = .returned (.tuple #[.agg #[.int .u8 K, .complex .f64 0 0, .complex .f64 0 0, .string X, .int .i64 N], .int .i64 m, .int .i64 x]) ∧ Below w'.heap.size w' w'') :
    Calls Tryz.prog 92 #[.string s] w fun e w' => e = .returned (.tuple #[.agg #[.int .u8 K, .complex .f64 0 0, .complex .f64 0 0, .string X, .int .i64 N], .int .i64 m, .int .i64 x]) ∧ Below w.heap.size w w' := by
  have hsc := fun w a x y m => store_cx (P := Tryz.prog) w a .f64 x y m
  have hem : s.toList.isEmpty = false := by rw [empty_test]; exact decide_eq_false (by omega)
  have D0 := below_tok w
  have A0 := Fv.new w (.int .u8 0) (.complex .f64 0 0) (.complex .f64 0 0) (.string ⟨#[]⟩) (.int .i64 0) 51 w.heap.size rfl
  have hlt0 : w.heap.size < (w.alloc (.cells #[.int .u8 0, .complex .f64 0 0, .complex .f64 0 0, .string ⟨#[]⟩, .int .i64 0] 51)).heap.size := by simp
  have hx0 : (0 : Int) < (s.size : Int) := by omega
  have HL := fun w => zletter_any c w
  rw [hl] at HL
  have HD := fun w => zdigit_any c w
  rw [hd] at HD
  go_enter Tryz.func92, Tryz.ntmps92
  go_wp2_with fail
  refine (HL _).mono ?_
  rintro e w1 ⟨rfl, rfl⟩
  clear HL
  go_wp2_with fail
  refine (HD _).mono ?_
  rintro e w1 ⟨rfl, rfl⟩
  clear HD
  go_wp2_with fail
  generalize w.alloc (.cells #[.int .u8 0, .complex .f64 0 0, .complex .f64 0 0, .string ⟨#[]⟩, .int .i64 0] 51) = w0 at D0 A0 hlt0 ⊢
  refine (H _ D0).mono ?_
  rintro e w1 ⟨rfl, B1⟩
  clear H
  have A1 := A0.below B1 hlt0
  have D1 := bt D0 B1
  have g0 := A1.c0
  have g1 := A1.c1
  have g2 := A1.c2
  have g3 := A1.c3
  have g4 := A1.c4
  have e0 := A1.f0
  have e1 := A1.f1
  have e2 := A1.f2
  have e3 := A1.f3
  have e4 := A1.f4
  go_wp2_with fail
  have R := (((((A1.set0 (.int .u8 K)).set1 (.complex .f64 0 0)).set2 (.complex .f64 0 0)).set3 (.string X)).set4 (.int .i64 N))
  have r0 := R.c0
  have r1 := R.c1
  have r2 := R.c2
  have r3 := R.c3
  have r4 := R.c4
  refine bodyPost_ret (v := .tuple #[.agg #[.int .u8 K, .complex .f64 0 0, .complex .f64 0 0, .string X, .int .i64 N], .int .i64 m, .int .i64 x]) (by simp [results, Tryz.results92, go_sem, r0, r1, r2, r3, r4]) rfl ?_
  exact ⟨rfl, below_set5 D1 (Nat.le_refl _) _ _ _ _ _⟩
theorem zf_none (s : ByteArray) (h0 : 0 < s.size) (c : UInt8) (hc : s[0] = c) (w : World) (hl : isLt c = false) (hd : isDg c = false) (q39 : ((c.toNat : Int) == 39) = false) (q34 : ((c.toNat : Int) == 34) = false)
    (HS : ∀ w, Calls Tryz.prog 114 #[.string s] w fun e w' => e = .returned (.tuple #[.string ⟨#[]⟩, .int .i64 0]) ∧ w' = w) :
    Calls Tryz.prog 92 #[.string s] w fun e w' => e = .returned (oneV (none, 0, 40)) ∧ Below w.heap.size w w' := by
  have hsc := fun w a x y m => store_cx (P := Tryz.prog) w a .f64 x y m
  have hem : s.toList.isEmpty = false := by rw [empty_test]; exact decide_eq_false (by omega)
  have D0 := below_tok w
  have A0 := Fv.new w (.int .u8 0) (.complex .f64 0 0) (.complex .f64 0 0) (.string ⟨#[]⟩) (.int .i64 0) 51 w.heap.size rfl
  have hlt0 : w.heap.size < (w.alloc (.cells #[.int .u8 0, .complex .f64 0 0, .complex .f64 0 0, .string ⟨#[]⟩, .int .i64 0] 51)).heap.size := by simp
  have hx0 : (0 : Int) < (s.size : Int) := by omega
  have HL := fun w => zletter_any c w
  rw [hl] at HL
  have HD := fun w => zdigit_any c w
  rw [hd] at HD
  go_enter Tryz.func92, Tryz.ntmps92
  go_wp2_with fail
  refine (HL _).mono ?_
  rintro e w1 ⟨rfl, rfl⟩
  clear HL
  go_wp2_with fail
  refine (HD _).mono ?_
  rintro e w1 ⟨rfl, rfl⟩
  clear HD
  go_wp2_with fail
  refine (HS _).mono ?_
  rintro e w1 ⟨rfl, rfl⟩
  clear HS
  generalize w.alloc (.cells #[.int .u8 0, .complex .f64 0 0, .complex .f64 0 0, .string ⟨#[]⟩, .int .i64 0] 51) = w0 at D0 A0 hlt0 ⊢
  have g0 := A0.c0
  have g1 := A0.c1
  have g2 := A0.c2
  have g3 := A0.c3
  have g4 := A0.c4
  have e0 := A0.f0
  have e1 := A0.f1
  have e2 := A0.f2
  have e3 := A0.f3
  have e4 := A0.f4
  go_wp2_with fail
  have R := (((((A0.set0 (.int .u8 0)).set1 (.complex .f64 0 0)).set2 (.complex .f64 0 0)).set3 (.string ⟨#[]⟩)).set4 (.int .i64 0))
  have r0 := R.c0
  have r1 := R.c1
  have r2 := R.c2
  have r3 := R.c3
  have r4 := R.c4
  refine bodyPost_ret (v := .tuple #[.agg #[.int .u8 0, .complex .f64 0 0, .complex .f64 0 0, .string ⟨#[]⟩, .int .i64 0], .int .i64 0, .int .i64 40]) (by simp [results, Tryz.results92, go_sem, r0, r1, r2, r3, r4]) rfl ?_
  exact ⟨rfl, below_set5 D0 (Nat.le_refl _) _ _ _ _ _⟩
theorem zf_sym (s : ByteArray) (h0 : 0 < s.size) (c : UInt8) (hc : s[0] = c) (X : ByteArray) (m : Int) (hm : (m == 0) = false) (K : Nat) (w : World) (hl : isLt c = false) (hd : isDg c = false) (q39 : ((c.toNat : Int) == 39) = false) (q34 : ((c.toNat : Int) == 34) = false)
    (HS : ∀ w, Calls Tryz.prog 114 #[.string s] w fun e w' => e = .returned (.tuple #[.string X, .int .i64 m]) ∧ w' = w)
    (HT : ∀ w, Calls Tryz.prog 115 #[.int .u8 5, .string X] w fun e w' => e = .returned (.agg #[.int .u8 K, .complex .f64 0 0, .complex .f64 0 0, .string X, .int .i64 0]) ∧ Below w.heap.size w w') :
    Calls Tryz.prog 92 #[.string s] w fun e w' => e = .returned (.tuple #[.agg #[.int .u8 K, .complex .f64 0 0, .complex .f64 0 0, .string X, .int .i64 0], .int .i64 m, .int .i64 0]) ∧ Below w.heap.size w w' := by
  have hsc := fun w a x y m => store_cx (P := Tryz.prog) w a .f64 x y m
  have hem : s.toList.isEmpty = false := by rw [empty_test]; exact decide_eq_false (by omega)
  have D0 := below_tok w
  have A0 := Fv.new w (.int .u8 0) (.complex .f64 0 0) (.complex .f64 0 0) (.string ⟨#[]⟩) (.int .i64 0) 51 w.heap.size rfl
  have hlt0 : w.heap.size < (w.alloc (.cells #[.int .u8 0, .complex .f64 0 0, .complex .f64 0 0, .string ⟨#[]⟩, .int .i64 0] 51)).heap.size := by simp
  have hx0 : (0 : Int) < (s.size : Int) := by omega
  have HL := fun w => zletter_any c w
  rw [hl] at HL
  have HD := fun w => zdigit_any c w
  rw [hd] at HD
  go_enter Tryz.func92, Tryz.ntmps92
  go_wp2_with fail
  refine (HL _).mono ?_
  rintro e w1 ⟨rfl, rfl⟩
  clear HL
  go_wp2_with fail
  refine (HD _).mono ?_
  rintro e w1 ⟨rfl, rfl⟩
  clear HD
  go_wp2_with fail
  refine (HS _).mono ?_
  rintro e w1 ⟨rfl, rfl⟩
  clear HS
  generalize w.alloc (.cells #[.int .u8 0, .complex .f64 0 0, .complex .f64 0 0, .string ⟨#[]⟩, .int .i64 0] 51) = w0 at D0 A0 hlt0 ⊢
  go_wp2_with fail
  refine (HT _).mono ?_
  rintro e w1 ⟨rfl, B1⟩
  clear HT
  have A1 := A0.below B1 hlt0
  have D1 := bt D0 B1
  have g0 := A1.c0
  have g1 := A1.c1
  have g2 := A1.c2
  have g3 := A1.c3
  have g4 := A1.c4
  have e0 := A1.f0
  have e1 := A1.f1
  have e2 := A1.f2
  have e3 := A1.f3
  have e4 := A1.f4
  go_wp2_with fail
  have R := (((((A1.set0 (.int .u8 K)).set1 (.complex .f64 0 0)).set2 (.complex .f64 0 0)).set3 (.string X)).set4 (.int .i64 0))
  have r0 := R.c0
  have r1 := R.c1
  have r2 := R.c2
  have r3 := R.c3
  have r4 := R.c4
  refine bodyPost_ret (v := .tuple #[.agg #[.int .u8 K, .complex .f64 0 0, .complex .f64 0 0, .string X, .int .i64 0], .int .i64 m, .int .i64 0]) (by simp [results, Tryz.results92, go_sem, r0, r1, r2, r3, r4]) rfl ?_
  exact ⟨rfl, below_set5 D1 (Nat.le_refl _) _ _ _ _ _⟩
theorem zf_end (s : ByteArray) (h0 : s.size = 0) (w : World) :
    Calls Tryz.prog 92 #[.string s] w fun e w' => e = .returned (oneV (none, 0, 0)) ∧ Below w.heap.size w w' := by
  have hsc := fun w a x y m => store_cx (P := Tryz.prog) w a .f64 x y m
  have hem : s.toList.isEmpty = true := by rw [empty_test]; exact decide_eq_true h0
  have D0 := below_tok w
  go_enter Tryz.func92, Tryz.ntmps92
  go_wp2_with fail
  refine bodyPost_ret (v := .tuple #[.agg #[.int .u8 0, .complex .f64 0 0, .complex .f64 0 0, .string ⟨#[]⟩, .int .i64 0], .int .i64 0, .int .i64 0]) (by simp [results, Tryz.results92, go_sem]) rfl ?_
  exact ⟨rfl, D0⟩
/-- All that a symbol may be. -/
def allS : List (List UInt8) := syms2 ++ syms1.map fun c => [c]
theorem allS_tok : ∀ v ∈ allS, (plainT v).k = (if wordB (plainT v).x then 6 else 5) ∧ (plainT v).n = 0 ∧ (plainT v).x.length ≤ 3 := by decide +kernel
theorem symb_in (u : List UInt8) (h : symb u ≠ 0) (hu : u ≠ []) : u.take (symb u) ∈ allS := by
  unfold symb at h ⊢
  unfold allS
  split
  · next h2 => exact List.mem_append_left _ (List.contains_iff_mem.1 h2)
  · next h2 =>
    rw [if_neg h2] at h
    split
    · next h1 =>
      refine List.mem_append_right _ (List.mem_map.2 ?_)
      cases u with
      | nil => exact absurd rfl hu
      | cons c r => exact ⟨c, List.contains_iff_mem.1 h1, rfl⟩
    · next h1 => rw [if_neg h1] at h; exact absurd rfl h
theorem tok_eta (t : T0) (k : Nat) (h : t.k = k) (hn : t.n = 0) : t = ⟨k, t.x, 0⟩ := by cases t; simp at h hn ⊢; exact ⟨h, hn⟩
theorem zfirst_any (s : ByteArray) (hs : s.size ≤ 1048576) (h0 : 0 < s.size) (w : World) (hE : Env w) :
    Calls Tryz.prog 92 #[.string s] w fun e w' => e = .returned (oneV (oneL s.data.toList)) ∧ Below w.heap.size w w' := by
  obtain ⟨r, hr⟩ := byte_cons s h0
  obtain ⟨c, hc⟩ : ∃ c, s[0] = c := ⟨_, rfl⟩
  rw [hc] at hr
  cases hl : isLt c
  · cases hd : isDg c
    · by_cases h39 : c = 39
      · rw [hr]
        exact zf_q39 s h0 c hc _ _ _ _ _ w hl hd (by rw [h39]; rfl) (fun w' hb => zquoted_any s hs c r hr (.inr h39) w' (hE.below hb))
      · by_cases h34 : c = 34
        · rw [hr]
          exact zf_q34 s h0 c hc _ _ _ _ _ w hl hd (byte_no c 39 h39) (by rw [h34]; rfl) (fun w' hb => zquoted_any s hs c r hr (.inl h34) w' (hE.below hb))
        · have hO : oneL s.data.toList = if symb s.data.toList = 0 then (none, 0, 40) else (some (plainT (s.data.toList.take (symb s.data.toList))), symb s.data.toList, 0) := by
            rw [hr]
            unfold oneL
            rw [if_neg (show ¬ isLt ((c :: r).headD 0) = true by show ¬ isLt c = true; rw [hl]; decide), if_neg (show ¬ isDg ((c :: r).headD 0) = true by show ¬ isDg c = true; rw [hd]; decide), if_neg (show ¬ ((c :: r).headD 0 = 34 ∨ (c :: r).headD 0 = 39) from fun h => Or.elim h h34 h39)]
          have HS := fun w => zsymbol_any s hs h0 w
          unfold SymPost symL at HS
          by_cases hz : symb s.data.toList = 0
          · rw [hO, if_pos hz]
            rw [if_pos hz] at HS
            exact zf_none s h0 c hc w hl hd (byte_no c 39 h39) (byte_no c 34 h34) HS
          · rw [hO, if_neg hz]
            rw [if_neg hz] at HS
            have hin := allS_tok _ (symb_in s.data.toList hz (by rw [hr]; simp))
            generalize plainT (s.data.toList.take (symb s.data.toList)) = t at HS hin ⊢
            obtain ⟨h1, h2, h3⟩ := hin
            have ed : (⟨t.x.toArray⟩ : ByteArray).data.toList = t.x := by simp
            have HT := fun w => ztoken_any 5 ⟨t.x.toArray⟩ (by rw [size_of_lit]; omega) w
            rw [ed, ← h1] at HT
            rw [tok_eta t t.k rfl h2]
            have hmz : (((symb s.data.toList : Nat) : Int) == 0) = false := beq_eq_false_iff_ne.2 (by omega)
            exact zf_sym s h0 c hc _ _ hmz t.k w hl hd (byte_no c 39 h39) (byte_no c 34 h34) HS HT
    · rw [hr]
      exact zf_digit s h0 c hc _ _ _ _ _ w hl hd (fun w' hb => znumber_any s hs c r hr hd w' (hE.below hb))
  · exact zf_letter s h0 c hc _ _ _ _ _ w hl (fun w' hb => zname_tok s hs (by rw [hr]; exact hl) w')
end Go.Proofs.YtliebhpddjbjeaaGreatDoor
