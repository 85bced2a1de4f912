/- Package lex, walked: strings. -/
import Derived.Test.YtliebhpddjbjeaaGreatDoorLzE
import Derived.Test.YtliebhpddjbjeaaGreatDoorPpEv
namespace Go.Proofs.YtliebhpddjbjeaaGreatDoor
open Go.RowKit
set_option maxHeartbeats 1000000
set_option maxRecDepth 100000
set_option linter.unusedVariables false

theorem tw_le (p : UInt8 → Bool) (r : List UInt8) (j : Nat) (x : UInt8) (h : r[j]? = some x) (hp : p x = false) : (r.takeWhile p).length ≤ j := by
  rcases Nat.lt_or_ge j (r.takeWhile p).length with q | q
  · exfalso
    have h1 : (r.takeWhile p)[j]? = r[j]? := by
      obtain ⟨t, ht⟩ := List.takeWhile_prefix (l := r) p
      conv => rhs; rw [← ht]
      rw [List.getElem?_append_left q]
    rw [h] at h1
    have hm : x ∈ r.takeWhile p := List.mem_of_getElem? h1
    have := tw_all p r x hm
    rw [hp] at this; cases this
  · exact q
theorem tw_at (p : UInt8 → Bool) (r : List UInt8) (i : Nat) (x : UInt8) (h : r[i]? = some x) (hp : p x = false) (ha : ∀ b ∈ r.take i, p b = true) : r.takeWhile p = r.take i := by
  have h1 := tw_le p r i x h hp
  have hpre : r.takeWhile p = r.take (r.takeWhile p).length := List.prefix_iff_eq_take.1 (List.takeWhile_prefix _)
  rcases Nat.lt_or_ge (r.takeWhile p).length i with q | q
  · exfalso
    have hil : i < r.length := by
      rcases Nat.lt_or_ge i r.length with q | q
      · exact q
      · rw [List.getElem?_eq_none q] at h; cases h
    obtain ⟨n, hn⟩ : ∃ n, (r.takeWhile p).length = n := ⟨_, rfl⟩
    rw [hn] at q hpre
    have hm : r[n]'(by omega) ∈ r.take i := by
      rw [List.mem_take_iff_getElem]
      exact ⟨n, by omega, rfl⟩
    have ht := ha _ hm
    have hd : r.drop n = r[n]'(by omega) :: r.drop (n + 1) := List.drop_eq_getElem_cons (by omega)
    have hsplit : r = r.take n ++ r[n]'(by omega) :: r.drop (n + 1) := by rw [← hd, List.take_append_drop]
    have e2 : r.takeWhile p = r.take n ++ (r.drop n).takeWhile p := by
      have hall : ∀ b ∈ r.take n, p b = true := fun b hb => ha b (by
        rw [show r.take n = (r.take i).take n by rw [List.take_take]; congr 1; omega] at hb
        exact List.mem_of_mem_take hb)
      conv => lhs; rw [← List.take_append_drop n r]
      rw [List.takeWhile_append_of_pos hall]
    rw [hd, List.takeWhile_cons, if_pos ht] at e2
    have := congrArg List.length e2
    rw [List.length_append, List.length_take, List.length_cons, hn] at this
    omega
  · rw [hpre, show (r.takeWhile p).length = i by omega]
theorem ib_first (r : List UInt8) (c : UInt8) (i : Nat) (h : Lib.indexByte r c = (i : Int)) : r[i]? = some c ∧ (∀ k, k < i → r[k]? ≠ some c) := Lib.indexByte_some h
theorem ib_mem (r : List UInt8) (c : UInt8) : decide (0 ≤ Lib.indexByte r c) = decide (c ∈ r) := by
  by_cases h : c ∈ r
  · rw [decide_eq_true h, decide_eq_true]
    by_cases q : 0 ≤ Lib.indexByte r c
    · exact q
    · exfalso
      have h1 := Lib.indexByte_ge r c
      obtain ⟨k, hk⟩ := List.getElem?_of_mem h
      exact Lib.indexByte_none (by omega) k hk
  · rw [decide_eq_false h, decide_eq_false]
    intro q
    obtain ⟨i, hi⟩ := Int.eq_ofNat_of_zero_le q
    exact h (List.mem_of_getElem? (ib_first r c i hi).1)
theorem cut_one (r : List UInt8) (c : UInt8) : (∃ i : Nat, Lib.indexByte r c = (i : Int) ∧ i < r.length ∧ (Lib.cut r [c]).1 = r.take i ∧ (Lib.cut r [c]).2.2 = true) ∨ (c ∉ r ∧ (Lib.cut r [c]).1 = r ∧ (Lib.cut r [c]).2.2 = false) := by
  unfold Lib.cut
  rw [Lib.index_one]
  by_cases h : 0 ≤ Lib.indexByte r c
  · obtain ⟨i, hi⟩ := Int.eq_ofNat_of_zero_le h
    refine .inl ⟨i, hi, ?_, ?_, ?_⟩
    · have := (ib_first r c i hi).1
      rcases Nat.lt_or_ge i r.length with q | q
      · exact q
      · rw [List.getElem?_eq_none q] at this; cases this
    · rw [if_pos h, hi]; rfl
    · rw [if_pos h]
  · refine .inr ⟨fun hm => h ?_, by rw [if_neg h], by rw [if_neg h]⟩
    have := ib_mem r c
    rw [decide_eq_true hm] at this
    exact of_decide_eq_true this
theorem quo_head (c : UInt8) (h : c = 34 ∨ c = 39) : isLt c = false ∧ isDg c = false ∧ (c != 10) = true := by
  rcases h with rfl | rfl <;> decide
theorem oneL_quo (c : UInt8) (r : List UInt8) (h : c = 34 ∨ c = 39) : oneL (c :: r) = if (r.drop (strS c r).length).head? = some c then (some ⟨4, strS c r, 0⟩, (strS c r).length + 2, 0) else (none, 0, 42) := by
  have hq := quo_head c h
  unfold oneL
  rw [if_neg (show ¬ isLt ((c :: r).headD 0) = true by show ¬ isLt c = true; rw [hq.1]; decide), if_neg (show ¬ isDg ((c :: r).headD 0) = true by show ¬ isDg c = true; rw [hq.2.1]; decide), if_pos (show (c :: r).headD 0 = 34 ∨ (c :: r).headD 0 = 39 from h)]
  rfl
theorem quo_none (c : UInt8) (r : List UInt8) (h : c = 34 ∨ c = 39) (hn : c ∉ r) : oneL (c :: r) = (none, 0, 42) := by
  rw [oneL_quo c r h, if_neg]
  intro e
  rw [List.head?_drop] at e
  exact hn (List.mem_of_getElem? e)
theorem quo_line (c : UInt8) (r : List UInt8) (h : c = 34 ∨ c = 39) (i : Nat) (hi : Lib.indexByte r c = (i : Int)) (hm : (10 : UInt8) ∈ r.take i) : oneL (c :: r) = (none, 0, 42) := by
  obtain ⟨h1, h2⟩ := ib_first r c i hi
  rw [oneL_quo c r h, if_neg]
  intro e
  rw [List.head?_drop] at e
  obtain ⟨j, hj⟩ := List.getElem?_of_mem hm
  have hji : j < i := by
    rcases Nat.lt_or_ge j i with q | q
    · exact q
    · rw [List.getElem?_eq_none (by rw [List.length_take]; omega)] at hj; cases hj
  have hj2 : r[j]? = some 10 := by rw [List.getElem?_take_of_lt hji] at hj; exact hj
  have hle : (strS c r).length ≤ j := tw_le _ r j 10 hj2 (by simp)
  exact h2 _ (by omega) e
theorem quo_ok (c : UInt8) (r : List UInt8) (h : c = 34 ∨ c = 39) (i : Nat) (hi : Lib.indexByte r c = (i : Int)) (hl : i < r.length) (hm : (10 : UInt8) ∉ r.take i) : oneL (c :: r) = (some ⟨4, r.take i, 0⟩, i + 2, 0) := by
  obtain ⟨h1, h2⟩ := ib_first r c i hi
  have e : strS c r = r.take i := tw_at _ r i c h1 (by simp) (fun b hb => by
    have hbc : b ≠ c := fun e => by
      obtain ⟨j, hj⟩ := List.getElem?_of_mem hb
      have hji : j < i := by
        rcases Nat.lt_or_ge j i with q | q
        · exact q
        · rw [List.getElem?_eq_none (by rw [List.length_take]; omega)] at hj; cases hj
      rw [List.getElem?_take_of_lt hji, e] at hj
      exact h2 j hji hj
    have hb10 : b ≠ 10 := fun e => hm (by rw [← e]; exact hb)
    simp [hbc, hb10])
  have el : (r.take i).length = i := by rw [List.length_take]; omega
  rw [oneL_quo c r h, e, el, if_pos (by rw [List.head?_drop]; exact h1)]
theorem Env.same {w w' : World} (h : Env w) (hb : Below w.heap.size w w') : Env w' := h.below hb
theorem zContains_ten (s : ByteArray) (w : World) :
    Calls Tryz.prog 77 #[.string s, .string ⟨#[10]⟩] w fun e w' => e = .returned (.bool (decide ((10 : UInt8) ∈ s.data.toList))) ∧ w' = w := by
  have h := Tryz.strings_Contains_one s 10 w
  rw [ib_mem] at h
  exact h
theorem zq_none (s t t2 : ByteArray) (h0 : 0 < s.size) (w : World) (HC : ∀ w', Below w.heap.size w w' → Calls Tryz.prog 105 #[.string (s.extract 1 s.size), .string (s.extract 0 1)] w' fun e w'' => e = .returned (.tuple #[.string t, .string t2, .bool false]) ∧ Below w'.heap.size w' w'') :
    Calls Tryz.prog 113 #[.string s] w fun e w' => e = .returned (oneV (none, 0, 42)) ∧ Below w.heap.size w w' := by
  have hsc := fun w a x y m => store_cx (P := Tryz.prog) w a .f64 x y m
  have D0 := below_tok w
  have A0 := Fv.new w (.int .u8 0) (.complex .f64 0 0) (.complex .f64 0 0) (.string ⟨#[]⟩) (.int .i64 0) 51 w.heap.size rfl
  have hlt0 : w.heap.size < (w.alloc (.cells #[.int .u8 0, .complex .f64 0 0, .complex .f64 0 0, .string ⟨#[]⟩, .int .i64 0] 51)).heap.size := by simp
  have hx1 : (1 : Int) ≤ (s.size : Int) := by omega
  go_enter Tryz.func113, Tryz.ntmps113
  go_wp2_with fail
  generalize w.alloc (.cells #[.int .u8 0, .complex .f64 0 0, .complex .f64 0 0, .string ⟨#[]⟩, .int .i64 0] 51) = w0 at D0 A0 hlt0 ⊢
  go_region_held3 (fun _ => True) (first | trivial) (first | (go_at_call 105; refine (HC _ (by first | exact D0 | exact D0.drew)).mono ?_; rintro e w1 ⟨rfl, B1⟩; have B0 : Below w0.heap.size w0 w1 := (Below.refl _ _).drew.trans B1; have A1 := A0.below B0 hlt0; have D1 := bt D0 B0; have hlt1 : w.heap.size < w1.heap.size := Nat.lt_of_lt_of_le hlt0 B0.size))
  all_goals
    clear HC
    have g0 := A1.c0
    have g1 := A1.c1
    have g2 := A1.c2
    have g3 := A1.c3
    have g4 := A1.c4
    have e0 := A1.f0
    have e1 := A1.f1
    have e2 := A1.f2
    have e3 := A1.f3
    have e4 := A1.f4
    go_wp2_with fail
    have R := (((((A1.set0 (.int .u8 0)).set1 (.complex .f64 0 0)).set2 (.complex .f64 0 0)).set3 (.string ⟨#[]⟩)).set4 (.int .i64 0))
    have r0 := R.c0
    have r1 := R.c1
    have r2 := R.c2
    have r3 := R.c3
    have r4 := R.c4
    refine bodyPost_ret (v := .tuple #[.agg #[.int .u8 0, .complex .f64 0 0, .complex .f64 0 0, .string ⟨#[]⟩, .int .i64 0], .int .i64 0, .int .i64 42]) (by simp [results, Tryz.results113, go_sem, r0, r1, r2, r3, r4]) rfl ?_
    exact ⟨rfl, below_set5 D1 (Nat.le_refl _) _ _ _ _ _⟩
theorem zq_line (s t t2 : ByteArray) (h0 : 0 < s.size) (w : World) (HC : ∀ w', Below w.heap.size w w' → Calls Tryz.prog 105 #[.string (s.extract 1 s.size), .string (s.extract 0 1)] w' fun e w'' => e = .returned (.tuple #[.string t, .string t2, .bool true]) ∧ Below w'.heap.size w' w'') (HT : ∀ w, Calls Tryz.prog 77 #[.string t, .string ⟨#[10]⟩] w fun e w' => e = .returned (.bool true) ∧ w' = w) :
    Calls Tryz.prog 113 #[.string s] w fun e w' => e = .returned (oneV (none, 0, 42)) ∧ Below w.heap.size w w' := by
  have hsc := fun w a x y m => store_cx (P := Tryz.prog) w a .f64 x y m
  have D0 := below_tok w
  have A0 := Fv.new w (.int .u8 0) (.complex .f64 0 0) (.complex .f64 0 0) (.string ⟨#[]⟩) (.int .i64 0) 51 w.heap.size rfl
  have hlt0 : w.heap.size < (w.alloc (.cells #[.int .u8 0, .complex .f64 0 0, .complex .f64 0 0, .string ⟨#[]⟩, .int .i64 0] 51)).heap.size := by simp
  have hx1 : (1 : Int) ≤ (s.size : Int) := by omega
  go_enter Tryz.func113, Tryz.ntmps113
  go_wp2_with fail
  generalize w.alloc (.cells #[.int .u8 0, .complex .f64 0 0, .complex .f64 0 0, .string ⟨#[]⟩, .int .i64 0] 51) = w0 at D0 A0 hlt0 ⊢
  go_region_held3 (fun _ => True) (first | trivial) (first | (go_at_call 105; refine (HC _ (by first | exact D0 | exact D0.drew)).mono ?_; rintro e w1 ⟨rfl, B1⟩; have B0 : Below w0.heap.size w0 w1 := (Below.refl _ _).drew.trans B1; have A1 := A0.below B0 hlt0; have D1 := bt D0 B0; have hlt1 : w.heap.size < w1.heap.size := Nat.lt_of_lt_of_le hlt0 B0.size))
  all_goals
    clear HC
    go_wp2_with fail
    refine (HT _).mono ?_
    rintro e w2 ⟨rfl, rfl⟩
    have g0 := A1.c0
    have g1 := A1.c1
    have g2 := A1.c2
    have g3 := A1.c3
    have g4 := A1.c4
    have e0 := A1.f0
    have e1 := A1.f1
    have e2 := A1.f2
    have e3 := A1.f3
    have e4 := A1.f4
    go_wp2_with fail
    have R := (((((A1.set0 (.int .u8 0)).set1 (.complex .f64 0 0)).set2 (.complex .f64 0 0)).set3 (.string ⟨#[]⟩)).set4 (.int .i64 0))
    have r0 := R.c0
    have r1 := R.c1
    have r2 := R.c2
    have r3 := R.c3
    have r4 := R.c4
    refine bodyPost_ret (v := .tuple #[.agg #[.int .u8 0, .complex .f64 0 0, .complex .f64 0 0, .string ⟨#[]⟩, .int .i64 0], .int .i64 0, .int .i64 42]) (by simp [results, Tryz.results113, go_sem, r0, r1, r2, r3, r4]) rfl ?_
    exact ⟨rfl, below_set5 D1 (Nat.le_refl _) _ _ _ _ _⟩
theorem zq_ok (s t t2 : ByteArray) (h0 : 0 < s.size) (i : Nat) (hi : i ≤ 1048576) (ht : t.size = i) (w : World) (HC : ∀ w', Below w.heap.size w w' → Calls Tryz.prog 105 #[.string (s.extract 1 s.size), .string (s.extract 0 1)] w' fun e w'' => e = .returned (.tuple #[.string t, .string t2, .bool true]) ∧ Below w'.heap.size w' w'') (HT : ∀ w, Calls Tryz.prog 77 #[.string t, .string ⟨#[10]⟩] w fun e w' => e = .returned (.bool false) ∧ w' = w) :
    Calls Tryz.prog 113 #[.string s] w fun e w' => e = .returned (.tuple #[.agg #[.int .u8 4, .complex .f64 0 0, .complex .f64 0 0, .string t, .int .i64 0], .int .i64 (i + 2), .int .i64 0]) ∧ Below w.heap.size w w' := by
  have hsc := fun w a x y m => store_cx (P := Tryz.prog) w a .f64 x y m
  have D0 := below_tok w
  have A0 := Fv.new w (.int .u8 0) (.complex .f64 0 0) (.complex .f64 0 0) (.string ⟨#[]⟩) (.int .i64 0) 51 w.heap.size rfl
  have hlt0 : w.heap.size < (w.alloc (.cells #[.int .u8 0, .complex .f64 0 0, .complex .f64 0 0, .string ⟨#[]⟩, .int .i64 0] 51)).heap.size := by simp
  have hx1 : (1 : Int) ≤ (s.size : Int) := by omega
  have HL := fun w => zClone_any t (by omega) w
  have hln : (t.size : Int) = (i : Int) := by rw [ht]
  have hil2 : (i : Int) ≤ 1048576 := by omega
  go_enter Tryz.func113, Tryz.ntmps113
  go_wp2_with fail
  generalize w.alloc (.cells #[.int .u8 0, .complex .f64 0 0, .complex .f64 0 0, .string ⟨#[]⟩, .int .i64 0] 51) = w0 at D0 A0 hlt0 ⊢
  go_region_held3 (fun _ => True) (first | trivial) (first | (go_at_call 105; refine (HC _ (by first | exact D0 | exact D0.drew)).mono ?_; rintro e w1 ⟨rfl, B1⟩; have B0 : Below w0.heap.size w0 w1 := (Below.refl _ _).drew.trans B1; have A1 := A0.below B0 hlt0; have D1 := bt D0 B0; have hlt1 : w.heap.size < w1.heap.size := Nat.lt_of_lt_of_le hlt0 B0.size))
  all_goals
    clear HC
    go_wp2_with fail
    refine (HT _).mono ?_
    rintro e w2 ⟨rfl, rfl⟩
    go_wp2_with fail
    refine (HL _).mono ?_
    rintro e w2 ⟨rfl, B2⟩
    have A2 := A1.below B2 hlt1
    have D2 := bt D1 B2
    have g0 := A2.c0
    have g1 := A2.c1
    have g2 := A2.c2
    have g3 := A2.c3
    have g4 := A2.c4
    have e0 := A2.f0
    have e1 := A2.f1
    have e2 := A2.f2
    have e3 := A2.f3
    have e4 := A2.f4
    go_wp2_with fail
    have R := (((((A2.set0 (.int .u8 4)).set1 (.complex .f64 0 0)).set2 (.complex .f64 0 0)).set3 (.string t)).set4 (.int .i64 0))
    have r0 := R.c0
    have r1 := R.c1
    have r2 := R.c2
    have r3 := R.c3
    have r4 := R.c4
    refine bodyPost_ret (v := .tuple #[.agg #[.int .u8 4, .complex .f64 0 0, .complex .f64 0 0, .string t, .int .i64 0], .int .i64 (i + 2), .int .i64 0]) (by simp [results, Tryz.results113, go_sem, r0, r1, r2, r3, r4]) rfl ?_
    exact ⟨rfl, below_set5 D2 (Nat.le_refl _) _ _ _ _ _⟩
theorem zquoted_any (s : ByteArray) (hs : s.size ≤ 1048576) (c : UInt8) (r : List UInt8) (hu : s.data.toList = c :: r) (hq : c = 34 ∨ c = 39) (w : World) (hE : Env w) :
    Calls Tryz.prog 113 #[.string s] w fun e w' => e = .returned (oneV (oneL (c :: r))) ∧ Below w.heap.size w w' := by
  have hlen := bytes_of s
  rw [hu, List.length_cons] at hlen
  obtain ⟨hr, hx⟩ := ext_one s c r hu
  have hrs : (s.extract 1 s.size).size = r.length := by rw [← bytes_of, hr]
  have HC : ∀ w', Below w.heap.size w w' → Calls Tryz.prog 105 #[.string (s.extract 1 s.size), .string (s.extract 0 1)] w' fun e w'' => e = .returned (.tuple #[.string ⟨(Lib.cut r [c]).1.toArray⟩, .string ⟨(Lib.cut r [c]).2.1.toArray⟩, .bool (Lib.cut r [c]).2.2]) ∧ Below w'.heap.size w' w'' := fun w' hb => by
    obtain ⟨m, hm⟩ := (hE.below hb).mx
    have := Tryz.strings_Cut (s.extract 1 s.size) (s.extract 0 1) m w' (by omega) hm
    rw [hr, hx] at this
    rw [hx]
    refine this.mono ?_
    rintro e w'' ⟨rfl, n, rfl⟩
    exact ⟨rfl, below_drewN _ _⟩
  rcases cut_one r c with ⟨i, hi, hil, hc1, hc2⟩ | ⟨hn, hc1, hc2⟩
  · have hts : (⟨(r.take i).toArray⟩ : ByteArray).size = i := by rw [size_of_lit, List.length_take]; omega
    have HT := fun w => zContains_ten ⟨(r.take i).toArray⟩ w
    rw [hc1, hc2] at HC
    have ed : (⟨(r.take i).toArray⟩ : ByteArray).data.toList = r.take i := by simp
    rw [ed] at HT
    by_cases hm : (10 : UInt8) ∈ r.take i
    · rw [decide_eq_true hm] at HT
      rw [quo_line c r hq i hi hm]
      exact zq_line s _ _ (by omega) w HC HT
    · rw [decide_eq_false hm] at HT
      rw [quo_ok c r hq i hi hil hm]
      exact zq_ok s _ _ (by omega) i (by omega) hts w HC HT
  · rw [hc1, hc2] at HC
    rw [quo_none c r hq hn]
    exact zq_none s _ _ (by omega) w HC
end Go.Proofs.YtliebhpddjbjeaaGreatDoor
