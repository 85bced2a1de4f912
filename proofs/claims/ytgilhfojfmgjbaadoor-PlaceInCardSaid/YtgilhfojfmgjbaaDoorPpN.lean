/- Layer 3's laws: PlaceIn. -/
import Derived.Test.YtgilhfojfmgjbaaDoorPpM
namespace Go.Proofs.YtgilhfojfmgjbaaDoor
open Go.RowKit
set_option maxHeartbeats 1000000
set_option maxRecDepth 100000
set_option linter.unusedVariables false

theorem in_heavy (s t : ByteArray) (a b : Int) (h : decide (4096 < s.size) = true ∨ (decide (4096 < s.size) = false ∧ decide (4096 < t.size) = true)) (w : World) (hE : Env w) :
    Calls Tryd.prog 4 #[.string s, .int .i64 a, .int .i64 b, .string t] w fun e w' => e = .returned (.bool true) ∧ Below w.heap.size w w' := by
  have hh := fun w => heavy_any s w
  have hg := fun w => heavy_any t w
  have HE := Lib.hid hE
  clear hE
  rcases h with h | ⟨h, g⟩
  · rw [h] at hh
    clear hg h
    go_enter Tryd.func4, Tryd.ntmps4
    go_wp2_with fail
    refine (hh _).mono ?_
    rintro e v1 ⟨rfl, rfl⟩
    go_wp2_with fail
    refine (works_any _ HE.out).mono ?_
    rintro e vv ⟨rfl, B⟩
    go_wp2_with fail
    go_ret
    exact ⟨rfl, B⟩
  · rw [h] at hh
    rw [g] at hg
    clear g h
    go_enter Tryd.func4, Tryd.ntmps4
    go_wp2_with fail
    refine (hh _).mono ?_
    rintro e v1 ⟨rfl, rfl⟩
    go_wp2_with fail
    refine (hg _).mono ?_
    rintro e v1 ⟨rfl, rfl⟩
    go_wp2_with fail
    refine (works_any _ HE.out).mono ?_
    rintro e vv ⟨rfl, B⟩
    go_wp2_with fail
    go_ret
    exact ⟨rfl, B⟩
theorem in_none (s t : ByteArray) (a b : Int) (h : decide (4096 < s.size) = false) (g : decide (4096 < t.size) = false) (hp : isP a b = false) (w : World) (hE : Env w) :
    Calls Tryd.prog 4 #[.string s, .int .i64 a, .int .i64 b, .string t] w fun e w' => e = .returned (.bool true) ∧ Below w.heap.size w w' := by
  have hh := fun w => heavy_any s w
  have hg := fun w => heavy_any t w
  rw [h] at hh
  rw [g] at hg
  have hs : s.size ≤ 4096 := by simpa using h
  have ht : t.size ≤ 4096 := by simpa using g
  clear h g
  have HP := fun w => Pos_any a b w
  have HI := fun w => In_any a b s (by omega) w
  have HIs := fun w => Is_any a b w
  have HrI := fun w => rIn_any a b s (by omega) w
  obtain ⟨L, C, hrg⟩ : ∃ L C, readGo [] t.data.toList = (L, C) := ⟨_, _, rfl⟩
  have R1 := fun w h => Read_any t (by omega) w h
  have R2 := fun w => rRead_any t (by omega) w
  rw [hrg] at R1 R2
  have HP2 := fun w => Pos_any L C w
  have HIs2 := fun w => Is_any L C w
  have qe := fun t w => eql_pos (P := Tryd.prog) L C L C t w
  rw [pEq_self] at qe
  rw [hp] at HIs
  obtain ⟨x1, y1, e1⟩ := posV_cx a b
  obtain ⟨x2, y2, e2⟩ := posV_cx L C
  simp only [e1, e2, plV] at HP HI HP2 R1 R2 qe
  generalize isP L C = z at R1 HIs2
  have HE := Lib.hid hE
  clear hE e1 e2 hrg
  go_enter Tryd.func4, Tryd.ntmps4
  go_wp2_with fail
  refine (hh _).mono ?_
  rintro e v1 ⟨rfl, rfl⟩
  go_wp2_with fail
  refine (hg _).mono ?_
  rintro e v1 ⟨rfl, rfl⟩
  clear hh hg
  have D0 := below_new v1 (.cells #[.int .i64 a, .int .i64 b] 25)
  have HE0 := Lib.hid (HE.out.below D0)
  have A0 : Hid (Two (v1.alloc (.cells #[.int .i64 a, .int .i64 b] 25)) v1.heap.size a b) := Lib.hid (Two.new v1 a b _ _ rfl)
  have hlt : v1.heap.size < (v1.alloc (.cells #[.int .i64 a, .int .i64 b] 25)).heap.size := by simp
  go_wp2_with fail
  refine (HP _).mono ?_
  rintro e w1 ⟨rfl, B1⟩
  have A1 := Lib.hid (A0.out.below B1 hlt)
  have hlt1 : v1.heap.size < w1.heap.size := Nat.lt_of_lt_of_le hlt B1.size
  have D1 := bt D0 B1
  have HE1 := Lib.hid (HE0.out.below B1)
  clear A0 hlt HE0 B1 D0
  go_wp2_with fail
  refine (HI _).mono ?_
  rintro e w2 ⟨r, rfl, hr, rfl⟩
  obtain rfl := hr.2 hp
  rw [show inI (-1) = 0 from rfl, show inB (-1) = false from rfl]
  clear hr
  have i0 := A1.out.c0
  have i1 := A1.out.c1
  go_wp2_with fail
  refine (HIs _).mono ?_
  rintro e w3 ⟨rfl, B2⟩
  have D2 := bt D1 B2
  have HE2 := Lib.hid (HE1.out.below B2)
  clear D1 HE1 B2 i0 i1 A1
  go_wp2_with fail
  refine (R1 _ HE2.out).mono ?_
  rintro e w4 ⟨rfl, B3⟩
  have D3 := bt D2 B3
  have HE3 := Lib.hid (HE2.out.below B3)
  clear D2 HE2 B3
  go_wp2_with fail
  refine (R2 _).mono ?_
  rintro e w5 ⟨rfl, B4⟩
  have D4 := bt D3 B4
  have HE4 := Lib.hid (HE3.out.below B4)
  clear D3 HE3 B4
  have B5 := below_new w5 (.cells #[.int .i64 L, .int .i64 C] 25)
  have E0 : Two (w5.alloc (.cells #[.int .i64 L, .int .i64 C] 25)) w5.heap.size L C := Two.new w5 L C _ _ rfl
  have hlt5 : w5.heap.size < (w5.alloc (.cells #[.int .i64 L, .int .i64 C] 25)).heap.size := by simp
  have D5 := bt D4 B5
  have HE5 := Lib.hid (HE4.out.below B5)
  clear D4 HE4 B5
  have c0 := E0.c0
  have c1 := E0.c1
  go_wp2_with fail
  refine (HP2 _).mono ?_
  rintro e w6 ⟨rfl, B6⟩
  have E1 := E0.below B6 hlt5
  have D6 := bt D5 B6
  have HE6 := Lib.hid (HE5.out.below B6)
  clear D5 HE5 B6 E0 c0 c1
  have c0 := E1.c0
  have c1 := E1.c1
  go_wp2_with fail
  refine (HIs2 _).mono ?_
  rintro e w7 ⟨rfl, B7⟩
  have D7 := bt D6 B7
  have HE7 := Lib.hid (HE6.out.below B7)
  clear D6 HE6 B7 E1 c0 c1
  go_wp2_with fail
  refine (works_any _ HE7.out).mono ?_
  rintro e vv ⟨rfl, B⟩
  go_wp2_with fail
  go_ret
  exact ⟨rfl, bt D7 B⟩
theorem in_is (s t : ByteArray) (a b : Int) (h : decide (4096 < s.size) = false) (g : decide (4096 < t.size) = false) (hp : isP a b = true) (w : World) (hE : Env w) :
    Calls Tryd.prog 4 #[.string s, .int .i64 a, .int .i64 b, .string t] w fun e w' => e = .returned (.bool true) ∧ Below w.heap.size w w' := by
  have hh := fun w => heavy_any s w
  have hg := fun w => heavy_any t w
  rw [h] at hh
  rw [g] at hg
  have hs : s.size ≤ 4096 := by simpa using h
  have ht : t.size ≤ 4096 := by simpa using g
  clear h g
  have HP := fun w => Pos_any a b w
  have HI := fun w => In_any a b s (by omega) w
  have HIs := fun w => Is_any a b w
  have HrI := fun w => rIn_any a b s (by omega) w
  obtain ⟨L, C, hrg⟩ : ∃ L C, readGo [] t.data.toList = (L, C) := ⟨_, _, rfl⟩
  have R1 := fun w h => Read_any t (by omega) w h
  have R2 := fun w => rRead_any t (by omega) w
  rw [hrg] at R1 R2
  have HP2 := fun w => Pos_any L C w
  have HIs2 := fun w => Is_any L C w
  have qe := fun t w => eql_pos (P := Tryd.prog) L C L C t w
  rw [pEq_self] at qe
  rw [hp] at HIs
  obtain ⟨x1, y1, e1⟩ := posV_cx a b
  obtain ⟨x2, y2, e2⟩ := posV_cx L C
  simp only [e1, e2, plV] at HP HI HP2 R1 R2 qe
  generalize isP L C = z at R1 HIs2
  have HE := Lib.hid hE
  clear hE e1 e2 hrg
  go_enter Tryd.func4, Tryd.ntmps4
  go_wp2_with fail
  refine (hh _).mono ?_
  rintro e v1 ⟨rfl, rfl⟩
  go_wp2_with fail
  refine (hg _).mono ?_
  rintro e v1 ⟨rfl, rfl⟩
  clear hh hg
  have D0 := below_new v1 (.cells #[.int .i64 a, .int .i64 b] 25)
  have HE0 := Lib.hid (HE.out.below D0)
  have A0 : Hid (Two (v1.alloc (.cells #[.int .i64 a, .int .i64 b] 25)) v1.heap.size a b) := Lib.hid (Two.new v1 a b _ _ rfl)
  have hlt : v1.heap.size < (v1.alloc (.cells #[.int .i64 a, .int .i64 b] 25)).heap.size := by simp
  go_wp2_with fail
  refine (HP _).mono ?_
  rintro e w1 ⟨rfl, B1⟩
  have A1 := Lib.hid (A0.out.below B1 hlt)
  have hlt1 : v1.heap.size < w1.heap.size := Nat.lt_of_lt_of_le hlt B1.size
  have D1 := bt D0 B1
  have HE1 := Lib.hid (HE0.out.below B1)
  clear A0 hlt HE0 B1 D0
  go_wp2_with fail
  refine (HI _).mono ?_
  rintro e w2 ⟨r, rfl, hr, rfl⟩
  have hr := Lib.hid (hr.1 hp)
  by_cases hr0 : 0 ≤ r
  · rw [show inI r = r by unfold inI; rw [if_pos hr0], show inB r = true by unfold inB; exact decide_eq_true hr0]
    have i0 := A1.out.c0
    have i1 := A1.out.c1
    go_wp2_with fail
    refine (HIs _).mono ?_
    rintro e w3 ⟨rfl, B2⟩
    have A2 := A1.out.below B2 hlt1
    have j0 := A2.c0
    have j1 := A2.c1
    have D2' := bt D1 B2
    have HE2' := Lib.hid (HE1.out.below B2)
    clear D1 HE1 B2 i0 i1 A1
    go_wp2_with fail
    refine (HrI _).mono ?_
    rintro e w3 ⟨r2, rfl, hr2, B2⟩
    obtain rfl := InIs_one _ _ _ _ _ hr.out hr2
    have D2 := bt D2' B2
    have HE2 := Lib.hid (HE2'.out.below B2)
    clear D2' HE2' B2 hr2 j0 j1 A2
    go_wp2_with fail
    refine (R1 _ HE2.out).mono ?_
    rintro e w4 ⟨rfl, B3⟩
    have D3 := bt D2 B3
    have HE3 := Lib.hid (HE2.out.below B3)
    clear D2 HE2 B3
    go_wp2_with fail
    refine (R2 _).mono ?_
    rintro e w5 ⟨rfl, B4⟩
    have D4 := bt D3 B4
    have HE4 := Lib.hid (HE3.out.below B4)
    clear D3 HE3 B4
    have B5 := below_new w5 (.cells #[.int .i64 L, .int .i64 C] 25)
    have E0 : Two (w5.alloc (.cells #[.int .i64 L, .int .i64 C] 25)) w5.heap.size L C := Two.new w5 L C _ _ rfl
    have hlt5 : w5.heap.size < (w5.alloc (.cells #[.int .i64 L, .int .i64 C] 25)).heap.size := by simp
    have D5 := bt D4 B5
    have HE5 := Lib.hid (HE4.out.below B5)
    clear D4 HE4 B5
    have c0 := E0.c0
    have c1 := E0.c1
    go_wp2_with fail
    refine (HP2 _).mono ?_
    rintro e w6 ⟨rfl, B6⟩
    have E1 := E0.below B6 hlt5
    have D6 := bt D5 B6
    have HE6 := Lib.hid (HE5.out.below B6)
    clear D5 HE5 B6 E0 c0 c1
    have c0 := E1.c0
    have c1 := E1.c1
    go_wp2_with fail
    refine (HIs2 _).mono ?_
    rintro e w7 ⟨rfl, B7⟩
    have D7 := bt D6 B7
    have HE7 := Lib.hid (HE6.out.below B7)
    clear D6 HE6 B7 E1 c0 c1
    go_wp2_with fail
    refine (works_any _ HE7.out).mono ?_
    rintro e vv ⟨rfl, B⟩
    go_wp2_with fail
    go_ret
    exact ⟨rfl, bt D7 B⟩
  · obtain rfl : r = -1 := by
      rcases hr.out with ⟨i, _, rfl, _, _⟩ | ⟨rfl, _⟩
      · exact absurd (Int.natCast_nonneg i) hr0
      · rfl
    rw [show inI (-1) = 0 from rfl, show inB (-1) = false from rfl]
    have i0 := A1.out.c0
    have i1 := A1.out.c1
    go_wp2_with fail
    refine (HIs _).mono ?_
    rintro e w3 ⟨rfl, B2⟩
    have A2 := A1.out.below B2 hlt1
    have j0 := A2.c0
    have j1 := A2.c1
    have D2' := bt D1 B2
    have HE2' := Lib.hid (HE1.out.below B2)
    clear D1 HE1 B2 i0 i1 A1
    go_wp2_with fail
    refine (HrI _).mono ?_
    rintro e w3 ⟨r2, rfl, hr2, B2⟩
    obtain rfl := InIs_one _ _ _ _ _ hr.out hr2
    have D2 := bt D2' B2
    have HE2 := Lib.hid (HE2'.out.below B2)
    clear D2' HE2' B2 hr2 j0 j1 A2
    go_wp2_with fail
    refine (R1 _ HE2.out).mono ?_
    rintro e w4 ⟨rfl, B3⟩
    have D3 := bt D2 B3
    have HE3 := Lib.hid (HE2.out.below B3)
    clear D2 HE2 B3
    go_wp2_with fail
    refine (R2 _).mono ?_
    rintro e w5 ⟨rfl, B4⟩
    have D4 := bt D3 B4
    have HE4 := Lib.hid (HE3.out.below B4)
    clear D3 HE3 B4
    have B5 := below_new w5 (.cells #[.int .i64 L, .int .i64 C] 25)
    have E0 : Two (w5.alloc (.cells #[.int .i64 L, .int .i64 C] 25)) w5.heap.size L C := Two.new w5 L C _ _ rfl
    have hlt5 : w5.heap.size < (w5.alloc (.cells #[.int .i64 L, .int .i64 C] 25)).heap.size := by simp
    have D5 := bt D4 B5
    have HE5 := Lib.hid (HE4.out.below B5)
    clear D4 HE4 B5
    have c0 := E0.c0
    have c1 := E0.c1
    go_wp2_with fail
    refine (HP2 _).mono ?_
    rintro e w6 ⟨rfl, B6⟩
    have E1 := E0.below B6 hlt5
    have D6 := bt D5 B6
    have HE6 := Lib.hid (HE5.out.below B6)
    clear D5 HE5 B6 E0 c0 c1
    have c0 := E1.c0
    have c1 := E1.c1
    go_wp2_with fail
    refine (HIs2 _).mono ?_
    rintro e w7 ⟨rfl, B7⟩
    have D7 := bt D6 B7
    have HE7 := Lib.hid (HE6.out.below B7)
    clear D6 HE6 B7 E1 c0 c1
    go_wp2_with fail
    refine (works_any _ HE7.out).mono ?_
    rintro e vv ⟨rfl, B⟩
    go_wp2_with fail
    go_ret
    exact ⟨rfl, bt D7 B⟩
theorem in_any (s : ByteArray) (a b : Int) (t : ByteArray) (a0 : -9223372036854775808 ≤ a) (a1 : a ≤ 9223372036854775807) (b0 : -9223372036854775808 ≤ b) (b1 : b ≤ 9223372036854775807) (w : World) (hE : Env w) :
    Calls Tryd.prog 4 #[.string s, .int .i64 a, .int .i64 b, .string t] w fun e w' => e = .returned (.bool true) ∧ Below w.heap.size w w' := by
  cases h : decide (4096 < s.size)
  · cases g : decide (4096 < t.size)
    · cases hp : isP a b
      · exact in_none s t a b h g hp w hE
      · exact in_is s t a b h g hp w hE
    · exact in_heavy s t a b (.inr ⟨h, g⟩) w hE
  · exact in_heavy s t a b (.inl h) w hE
end Go.Proofs.YtgilhfojfmgjbaaDoor
