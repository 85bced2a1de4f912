/- Layer 3's laws: PlaceTells. -/
import Derived.Test.YtgilhfojfmgjbaaDoorPpM
import Derived.Deep.RegionHeld3
namespace Go.Proofs.YtgilhfojfmgjbaaDoor
open Go.RowKit
set_option maxHeartbeats 1000000
set_option maxRecDepth 100000
set_option linter.unusedVariables false

theorem tells_heavy (a b c d : Int) (s : ByteArray) (h : decide (4096 < s.size) = true) (w : World) (hE : Env w) :
    Calls Tryd.prog 3 #[.int .i64 a, .int .i64 b, .int .i64 c, .int .i64 d, .string s] w fun e w' => e = .returned (.bool true) ∧ Below w.heap.size w w' := by
  have hh := fun w => heavy_any s w
  rw [h] at hh
  have HE := Lib.hid hE
  clear hE h
  go_enter Tryd.func3, Tryd.ntmps3
  go_wp2_with fail
  refine (hh _).mono ?_
  rintro e v1 ⟨rfl, rfl⟩
  go_wp2_with fail
  refine (works_any _ HE.out).mono ?_
  rintro e vv ⟨rfl, B⟩
  go_wp2_with fail
  go_ret
  exact ⟨rfl, B⟩
theorem digits_is (a : Int) (h0 : 1 ≤ a) (h1 : a ≤ 1073741824) (w : World) :
    Calls Tryd.prog 14 #[.int .i64 a] w fun e w' => e = .returned (.string ⟨(Lib.decDigits a.toNat).toArray⟩) ∧ Below w.heap.size w w' := by
  have := rDigits_any a.toNat (by omega) w
  rw [Int.toNat_of_nonneg (by omega), dgs_dec a h0] at this
  exact this
structure RestX (v W : World) : Prop where
  env : Env W
  bel : Below v.heap.size v W
  lt : v.heap.size < W.heap.size
theorem kept_step {v W W' : World} {a b : Int} (h : W.cell? ⟨v.heap.size, 0, none⟩ = some (.int .i64 a) ∧ W.cell? ⟨v.heap.size, 1, none⟩ = some (.int .i64 b) ∧ RestX v W) (hb : Below W.heap.size W W') :
    W'.cell? ⟨v.heap.size, 0, none⟩ = some (.int .i64 a) ∧ W'.cell? ⟨v.heap.size, 1, none⟩ = some (.int .i64 b) ∧ RestX v W' :=
  ⟨(hb.cell h.2.2.lt).trans h.1, (hb.cell h.2.2.lt).trans h.2.1, h.2.2.env.below hb, bt h.2.2.bel hb, Nat.lt_of_lt_of_le h.2.2.lt hb.size⟩
theorem kept_drew {v W : World} {a b : Int} (h : W.cell? ⟨v.heap.size, 0, none⟩ = some (.int .i64 a) ∧ W.cell? ⟨v.heap.size, 1, none⟩ = some (.int .i64 b) ∧ RestX v W) :
    W.drew.cell? ⟨v.heap.size, 0, none⟩ = some (.int .i64 a) ∧ W.drew.cell? ⟨v.heap.size, 1, none⟩ = some (.int .i64 b) ∧ RestX v W.drew := kept_step h (Below.refl _ _).drew
theorem kept_env {v W : World} {a b : Int} (h : W.cell? ⟨v.heap.size, 0, none⟩ = some (.int .i64 a) ∧ W.cell? ⟨v.heap.size, 1, none⟩ = some (.int .i64 b) ∧ RestX v W) : Env W := h.2.2.env
theorem kept_below {v W : World} {a b : Int} (h : W.cell? ⟨v.heap.size, 0, none⟩ = some (.int .i64 a) ∧ W.cell? ⟨v.heap.size, 1, none⟩ = some (.int .i64 b) ∧ RestX v W) : Below v.heap.size v W := h.2.2.bel
theorem txt_cat (a b : Int) (h : isP a b = true) : (⟨(txtOf a b).toArray⟩ : ByteArray) = ⟨(Lib.decDigits a.toNat).toArray⟩ ++ ⟨#[58]⟩ ++ ⟨(Lib.decDigits b.toNat).toArray⟩ := by
  rw [text_cat]; unfold txtOf txt; rw [h]; rfl
theorem tells_n (a b c d : Int) (a0 : -9223372036854775808 ≤ a) (a1 : a ≤ 9223372036854775807) (b0 : -9223372036854775808 ≤ b) (b1 : b ≤ 9223372036854775807) (c0 : -9223372036854775808 ≤ c) (c1 : c ≤ 9223372036854775807) (d0 : -9223372036854775808 ≤ d) (d1 : d ≤ 9223372036854775807) (s : ByteArray) (h : decide (4096 < s.size) = false) (hx : isP a b = false)  (qb : pBef a b c d = false) (w : World) (hE : Env w) :
    Calls Tryd.prog 3 #[.int .i64 a, .int .i64 b, .int .i64 c, .int .i64 d, .string s] w fun e w' => e = .returned (.bool true) ∧ Below w.heap.size w w' := by
  have hh := fun w => heavy_any s w
  rw [h] at hh
  have hs : s.size ≤ 4096 := by simpa using h
  have HE := Lib.hid hE
  have O1 := fun w => Of_any a b a0 a1 b0 b1 w
  have O2 := fun w => Of_any c d c0 c1 d0 d1 w
  have P1 := fun w => Pos_any a b w
  have P2 := fun w => Pos_any c d w
  have S1 := fun w => Is_any a b w
  have S2 := fun w => Is_any c d w
  have LN := fun w => Line_any a b w
  have CO := fun w => Column_any a b w
  have BF := fun w => Before_any a b c d w
  have BH := fun w => Behind_any a b s (by omega) w
  have RB := fun w => rBehind_any a b s (by omega) w
  have TX := fun w h => Text_any a b w h
  obtain ⟨L, C, hlc⟩ : ∃ L C, goB a b s.data.toList = (L, C) := ⟨_, _, rfl⟩
  rw [hlc] at BH RB
  have P3 := fun w => Pos_any L C w
  have n1 := fun t w => neq_pos (P := Tryd.prog) a b a b t w
  have n2 := fun t w => neq_pos (P := Tryd.prog) c d c d t w
  have q3 := fun t w => eql_pos (P := Tryd.prog) L C L C t w
  rw [pEq_self] at n1 n2 q3
  rw [hx] at S1
  rw [qb] at BF
  rw [show lnOf a b = 0 by unfold lnOf; rw [hx]; rfl] at LN
  rw [show coOf a b = 0 by unfold coOf; rw [hx]; rfl] at CO
  rw [show txtOf a b = [] by unfold txtOf; rw [hx]; rfl] at TX
  obtain ⟨x1, y1, e1⟩ := posV_cx a b
  obtain ⟨x2, y2, e2⟩ := posV_cx c d
  obtain ⟨x3, y3, e3⟩ := posV_cx L C
  simp only [e1, e2, e3, plV] at O1 O2 P1 P2 P3 LN CO BF BH RB TX n1 n2 q3
  clear hE h e1 e2 e3 hlc qb hx 
  go_enter Tryd.func3, Tryd.ntmps3
  go_wp2_with fail
  refine (hh _).mono ?_
  rintro e v1 ⟨rfl, rfl⟩
  clear hh
  go_wp2_with fail
  refine (O1 _).mono ?_
  rintro e u1 ⟨rfl, rfl⟩
  go_wp2_with fail
  refine (O2 _).mono ?_
  rintro e u2 ⟨rfl, rfl⟩
  have D0 : Below v1.heap.size v1 ((v1.alloc (.cells #[.int .i64 a, .int .i64 b] 25)).alloc (.cells #[.int .i64 c, .int .i64 d] 25)) := bt (below_new _ _) (below_new _ _)
  have X0 : Two ((v1.alloc (.cells #[.int .i64 a, .int .i64 b] 25)).alloc (.cells #[.int .i64 c, .int .i64 d] 25)) v1.heap.size a b := (Two.new v1 a b _ _ rfl).alloc _ (by simp)
  have Y0 : Two ((v1.alloc (.cells #[.int .i64 a, .int .i64 b] 25)).alloc (.cells #[.int .i64 c, .int .i64 d] 25)) (v1.heap.size + 1) c d := Two.new _ c d _ _ (by simp)
  have l0 : v1.heap.size < ((v1.alloc (.cells #[.int .i64 a, .int .i64 b] 25)).alloc (.cells #[.int .i64 c, .int .i64 d] 25)).heap.size := by simp; omega
  have m0 : v1.heap.size + 1 < ((v1.alloc (.cells #[.int .i64 a, .int .i64 b] 25)).alloc (.cells #[.int .i64 c, .int .i64 d] 25)).heap.size := by simp
  have HE0 := Lib.hid (HE.out.below D0)
  go_wp2_with fail
  refine (P1 _).mono ?_
  rintro e w1 ⟨rfl, B1⟩
  have X1 := X0.below B1 l0
  have Y1 := Y0.below B1 m0
  have l1 := Nat.lt_of_lt_of_le l0 B1.size
  have m1 := Nat.lt_of_lt_of_le m0 B1.size
  have D1 := bt D0 B1
  have HE1 := Lib.hid (HE0.out.below B1)
  clear D0 HE0 B1
  try clear f0 f1 g0 g1
  clear X0 Y0
  have f0 := X1.c0
  have f1 := X1.c1
  have g0 := Y1.c0
  have g1 := Y1.c1
  go_wp2_with fail
  refine (P2 _).mono ?_
  rintro e w2 ⟨rfl, B2⟩
  have X2 := X1.below B2 l1
  have Y2 := Y1.below B2 m1
  have l2 := Nat.lt_of_lt_of_le l1 B2.size
  have m2 := Nat.lt_of_lt_of_le m1 B2.size
  have D2 := bt D1 B2
  have HE2 := Lib.hid (HE1.out.below B2)
  clear D1 HE1 B2
  try clear f0 f1 g0 g1
  clear X1 Y1
  have f0 := X2.c0
  have f1 := X2.c1
  have g0 := Y2.c0
  have g1 := Y2.c1
  go_wp2_with fail
  refine (S1 _).mono ?_
  rintro e w3 ⟨rfl, B3⟩
  have X3 := X2.below B3 l2
  have Y3 := Y2.below B3 m2
  have l3 := Nat.lt_of_lt_of_le l2 B3.size
  have m3 := Nat.lt_of_lt_of_le m2 B3.size
  have D3 := bt D2 B3
  have HE3 := Lib.hid (HE2.out.below B3)
  clear D2 HE2 B3
  try clear f0 f1 g0 g1
  clear X2 Y2
  have f0 := X3.c0
  have f1 := X3.c1
  have g0 := Y3.c0
  have g1 := Y3.c1
  go_wp2_with fail
  refine (S1 _).mono ?_
  rintro e w4 ⟨rfl, B4⟩
  have X4 := X3.below B4 l3
  have Y4 := Y3.below B4 m3
  have l4 := Nat.lt_of_lt_of_le l3 B4.size
  have m4 := Nat.lt_of_lt_of_le m3 B4.size
  have D4 := bt D3 B4
  have HE4 := Lib.hid (HE3.out.below B4)
  clear D3 HE3 B4
  try clear f0 f1 g0 g1
  clear X3 Y3
  have f0 := X4.c0
  have f1 := X4.c1
  have g0 := Y4.c0
  have g1 := Y4.c1
  go_wp2_with fail
  have K0 : w4.cell? ⟨v1.heap.size, 0, none⟩ = some (.int .i64 a) ∧ w4.cell? ⟨v1.heap.size, 1, none⟩ = some (.int .i64 b) ∧ RestX v1 w4 := ⟨X4.c0, X4.c1, HE4.out, D4, l4⟩
  clear X4 Y4 D4 HE4 f0 f1 g0 g1
  go_region_held3 (fun w' => w'.cell? ⟨v1.heap.size, 0, none⟩ = some (.int .i64 a) ∧ w'.cell? ⟨v1.heap.size, 1, none⟩ = some (.int .i64 b) ∧ RestX v1 w') (first | assumption | exact kept_drew (by assumption) | exact kept_step (by assumption) Bk) (first
    | (go_at_call 15; refine (LN _).mono ?_; rintro e wk ⟨rfl, rfl⟩)
    | (go_at_call 16; refine (CO _).mono ?_; rintro e wk ⟨rfl, rfl⟩)
    | (go_at_call 17; refine (BH _).mono ?_; rintro e wk ⟨rfl, rfl⟩)
    | (go_at_call 18; refine (RB _).mono ?_; rintro e wk ⟨rfl, Bk⟩)
    | (go_at_call 12; refine (P3 _).mono ?_; rintro e wk ⟨rfl, Bk⟩)
    | (go_at_call 19; refine (BF _).mono ?_; rintro e wk ⟨rfl, rfl⟩)
    | (go_at_call 20; refine (TX _ (kept_env (by assumption))).mono ?_; rintro e wk ⟨rfl, Bk⟩)
    | (go_at_call 10; refine (works_any _ (kept_env (by assumption))).mono ?_; rintro e wk ⟨rfl, Bk⟩))
  all_goals
    go_wp2_with fail
    go_ret
    exact ⟨rfl, kept_below (by assumption)⟩
theorem tells_ny (a b c d : Int) (a0 : -9223372036854775808 ≤ a) (a1 : a ≤ 9223372036854775807) (b0 : -9223372036854775808 ≤ b) (b1 : b ≤ 9223372036854775807) (c0 : -9223372036854775808 ≤ c) (c1 : c ≤ 9223372036854775807) (d0 : -9223372036854775808 ≤ d) (d1 : d ≤ 9223372036854775807) (s : ByteArray) (h : decide (4096 < s.size) = false) (hx : isP a b = true) (hy : isP c d = false)  (qb : pBef a b c d = false) (w : World) (hE : Env w) :
    Calls Tryd.prog 3 #[.int .i64 a, .int .i64 b, .int .i64 c, .int .i64 d, .string s] w fun e w' => e = .returned (.bool true) ∧ Below w.heap.size w w' := by
  have hh := fun w => heavy_any s w
  rw [h] at hh
  have hs : s.size ≤ 4096 := by simpa using h
  have HE := Lib.hid hE
  have O1 := fun w => Of_any a b a0 a1 b0 b1 w
  have O2 := fun w => Of_any c d c0 c1 d0 d1 w
  have P1 := fun w => Pos_any a b w
  have P2 := fun w => Pos_any c d w
  have S1 := fun w => Is_any a b w
  have S2 := fun w => Is_any c d w
  have LN := fun w => Line_any a b w
  have CO := fun w => Column_any a b w
  have BF := fun w => Before_any a b c d w
  have BH := fun w => Behind_any a b s (by omega) w
  have RB := fun w => rBehind_any a b s (by omega) w
  have TX := fun w h => Text_any a b w h
  obtain ⟨L, C, hlc⟩ : ∃ L C, goB a b s.data.toList = (L, C) := ⟨_, _, rfl⟩
  rw [hlc] at BH RB
  have P3 := fun w => Pos_any L C w
  have n1 := fun t w => neq_pos (P := Tryd.prog) a b a b t w
  have n2 := fun t w => neq_pos (P := Tryd.prog) c d c d t w
  have q3 := fun t w => eql_pos (P := Tryd.prog) L C L C t w
  rw [pEq_self] at n1 n2 q3
  rw [hx] at S1
  rw [qb] at BF
  rw [show lnOf a b = a by unfold lnOf; rw [hx]; rfl] at LN
  rw [show coOf a b = b by unfold coOf; rw [hx]; rfl] at CO
  rw [hy] at S2
  obtain ⟨p1, p2, p3, p4⟩ := (isP_iff a b).1 hx
  have Da := fun w => digits_is a p1 p2 w
  have Db := fun w => digits_is b p3 p4 w
  have z1 : (⟨(Lib.decDigits a.toNat).toArray⟩ : ByteArray).size ≤ 10 := by rw [size_lit]; exact dec_short a p1 p2
  have z2 : (⟨(Lib.decDigits b.toNat).toArray⟩ : ByteArray).size ≤ 10 := by rw [size_lit]; exact dec_short b p3 p4
  rw [txt_cat a b hx] at TX
  generalize (⟨(Lib.decDigits a.toNat).toArray⟩ : ByteArray) = T1 at Da TX z1
  generalize (⟨(Lib.decDigits b.toNat).toArray⟩ : ByteArray) = T2 at Db TX z2
  obtain ⟨x1, y1, e1⟩ := posV_cx a b
  obtain ⟨x2, y2, e2⟩ := posV_cx c d
  obtain ⟨x3, y3, e3⟩ := posV_cx L C
  simp only [e1, e2, e3, plV] at O1 O2 P1 P2 P3 LN CO BF BH RB TX n1 n2 q3
  clear hE h e1 e2 e3 hlc qb hx hy
  go_enter Tryd.func3, Tryd.ntmps3
  go_wp2_with fail
  refine (hh _).mono ?_
  rintro e v1 ⟨rfl, rfl⟩
  clear hh
  go_wp2_with fail
  refine (O1 _).mono ?_
  rintro e u1 ⟨rfl, rfl⟩
  go_wp2_with fail
  refine (O2 _).mono ?_
  rintro e u2 ⟨rfl, rfl⟩
  have D0 : Below v1.heap.size v1 ((v1.alloc (.cells #[.int .i64 a, .int .i64 b] 25)).alloc (.cells #[.int .i64 c, .int .i64 d] 25)) := bt (below_new _ _) (below_new _ _)
  have X0 : Two ((v1.alloc (.cells #[.int .i64 a, .int .i64 b] 25)).alloc (.cells #[.int .i64 c, .int .i64 d] 25)) v1.heap.size a b := (Two.new v1 a b _ _ rfl).alloc _ (by simp)
  have Y0 : Two ((v1.alloc (.cells #[.int .i64 a, .int .i64 b] 25)).alloc (.cells #[.int .i64 c, .int .i64 d] 25)) (v1.heap.size + 1) c d := Two.new _ c d _ _ (by simp)
  have l0 : v1.heap.size < ((v1.alloc (.cells #[.int .i64 a, .int .i64 b] 25)).alloc (.cells #[.int .i64 c, .int .i64 d] 25)).heap.size := by simp; omega
  have m0 : v1.heap.size + 1 < ((v1.alloc (.cells #[.int .i64 a, .int .i64 b] 25)).alloc (.cells #[.int .i64 c, .int .i64 d] 25)).heap.size := by simp
  have HE0 := Lib.hid (HE.out.below D0)
  go_wp2_with fail
  refine (P1 _).mono ?_
  rintro e w1 ⟨rfl, B1⟩
  have X1 := X0.below B1 l0
  have Y1 := Y0.below B1 m0
  have l1 := Nat.lt_of_lt_of_le l0 B1.size
  have m1 := Nat.lt_of_lt_of_le m0 B1.size
  have D1 := bt D0 B1
  have HE1 := Lib.hid (HE0.out.below B1)
  clear D0 HE0 B1
  try clear f0 f1 g0 g1
  clear X0 Y0
  have f0 := X1.c0
  have f1 := X1.c1
  have g0 := Y1.c0
  have g1 := Y1.c1
  go_wp2_with fail
  refine (P2 _).mono ?_
  rintro e w2 ⟨rfl, B2⟩
  have X2 := X1.below B2 l1
  have Y2 := Y1.below B2 m1
  have l2 := Nat.lt_of_lt_of_le l1 B2.size
  have m2 := Nat.lt_of_lt_of_le m1 B2.size
  have D2 := bt D1 B2
  have HE2 := Lib.hid (HE1.out.below B2)
  clear D1 HE1 B2
  try clear f0 f1 g0 g1
  clear X1 Y1
  have f0 := X2.c0
  have f1 := X2.c1
  have g0 := Y2.c0
  have g1 := Y2.c1
  go_wp2_with fail
  refine (S1 _).mono ?_
  rintro e w3 ⟨rfl, B3⟩
  have X3 := X2.below B3 l2
  have Y3 := Y2.below B3 m2
  have l3 := Nat.lt_of_lt_of_le l2 B3.size
  have m3 := Nat.lt_of_lt_of_le m2 B3.size
  have D3 := bt D2 B3
  have HE3 := Lib.hid (HE2.out.below B3)
  clear D2 HE2 B3
  try clear f0 f1 g0 g1
  clear X2 Y2
  have f0 := X3.c0
  have f1 := X3.c1
  have g0 := Y3.c0
  have g1 := Y3.c1
  go_wp2_with fail
  refine (Da _).mono ?_
  rintro e w4 ⟨rfl, B4⟩
  have X4 := X3.below B4 l3
  have Y4 := Y3.below B4 m3
  have l4 := Nat.lt_of_lt_of_le l3 B4.size
  have m4 := Nat.lt_of_lt_of_le m3 B4.size
  have D4 := bt D3 B4
  have HE4 := Lib.hid (HE3.out.below B4)
  clear D3 HE3 B4
  try clear f0 f1 g0 g1
  clear X3 Y3
  have f0 := X4.c0
  have f1 := X4.c1
  have g0 := Y4.c0
  have g1 := Y4.c1
  go_wp2_with fail
  refine (Db _).mono ?_
  rintro e w5 ⟨rfl, B5⟩
  have X5 := X4.below B5 l4
  have Y5 := Y4.below B5 m4
  have l5 := Nat.lt_of_lt_of_le l4 B5.size
  have m5 := Nat.lt_of_lt_of_le m4 B5.size
  have D5 := bt D4 B5
  have HE5 := Lib.hid (HE4.out.below B5)
  clear D4 HE4 B5
  try clear f0 f1 g0 g1
  clear X4 Y4
  have f0 := X5.c0
  have f1 := X5.c1
  have g0 := Y5.c0
  have g1 := Y5.c1
  go_wp2_with fail
  refine (S1 _).mono ?_
  rintro e w6 ⟨rfl, B6⟩
  have X6 := X5.below B6 l5
  have Y6 := Y5.below B6 m5
  have l6 := Nat.lt_of_lt_of_le l5 B6.size
  have m6 := Nat.lt_of_lt_of_le m5 B6.size
  have D6 := bt D5 B6
  have HE6 := Lib.hid (HE5.out.below B6)
  clear D5 HE5 B6
  try clear f0 f1 g0 g1
  clear X5 Y5
  have f0 := X6.c0
  have f1 := X6.c1
  have g0 := Y6.c0
  have g1 := Y6.c1
  go_wp2_with fail
  refine (S2 _).mono ?_
  rintro e w7 ⟨rfl, B7⟩
  have X7 := X6.below B7 l6
  have Y7 := Y6.below B7 m6
  have l7 := Nat.lt_of_lt_of_le l6 B7.size
  have m7 := Nat.lt_of_lt_of_le m6 B7.size
  have D7 := bt D6 B7
  have HE7 := Lib.hid (HE6.out.below B7)
  clear D6 HE6 B7
  try clear f0 f1 g0 g1
  clear X6 Y6
  have f0 := X7.c0
  have f1 := X7.c1
  have g0 := Y7.c0
  have g1 := Y7.c1
  go_wp2_with fail
  have K0 : w7.cell? ⟨v1.heap.size, 0, none⟩ = some (.int .i64 a) ∧ w7.cell? ⟨v1.heap.size, 1, none⟩ = some (.int .i64 b) ∧ RestX v1 w7 := ⟨X7.c0, X7.c1, HE7.out, D7, l7⟩
  clear X7 Y7 D7 HE7 f0 f1 g0 g1
  go_region_held3 (fun w' => w'.cell? ⟨v1.heap.size, 0, none⟩ = some (.int .i64 a) ∧ w'.cell? ⟨v1.heap.size, 1, none⟩ = some (.int .i64 b) ∧ RestX v1 w') (first | assumption | exact kept_drew (by assumption) | exact kept_step (by assumption) Bk) (first
    | (go_at_call 15; refine (LN _).mono ?_; rintro e wk ⟨rfl, rfl⟩)
    | (go_at_call 16; refine (CO _).mono ?_; rintro e wk ⟨rfl, rfl⟩)
    | (go_at_call 17; refine (BH _).mono ?_; rintro e wk ⟨rfl, rfl⟩)
    | (go_at_call 18; refine (RB _).mono ?_; rintro e wk ⟨rfl, Bk⟩)
    | (go_at_call 12; refine (P3 _).mono ?_; rintro e wk ⟨rfl, Bk⟩)
    | (go_at_call 19; refine (BF _).mono ?_; rintro e wk ⟨rfl, rfl⟩)
    | (go_at_call 20; refine (TX _ (kept_env (by assumption))).mono ?_; rintro e wk ⟨rfl, Bk⟩)
    | (go_at_call 10; refine (works_any _ (kept_env (by assumption))).mono ?_; rintro e wk ⟨rfl, Bk⟩))
  all_goals
    go_wp2_with fail
    go_ret
    exact ⟨rfl, kept_below (by assumption)⟩
theorem tells_lt (a b c d : Int) (a0 : -9223372036854775808 ≤ a) (a1 : a ≤ 9223372036854775807) (b0 : -9223372036854775808 ≤ b) (b1 : b ≤ 9223372036854775807) (c0 : -9223372036854775808 ≤ c) (c1 : c ≤ 9223372036854775807) (d0 : -9223372036854775808 ≤ d) (d1 : d ≤ 9223372036854775807) (s : ByteArray) (h : decide (4096 < s.size) = false) (hx : isP a b = true) (hy : isP c d = true) (h1 : a < c) (qb : pBef a b c d = true) (w : World) (hE : Env w) :
    Calls Tryd.prog 3 #[.int .i64 a, .int .i64 b, .int .i64 c, .int .i64 d, .string s] w fun e w' => e = .returned (.bool true) ∧ Below w.heap.size w w' := by
  have hh := fun w => heavy_any s w
  rw [h] at hh
  have hs : s.size ≤ 4096 := by simpa using h
  have HE := Lib.hid hE
  have O1 := fun w => Of_any a b a0 a1 b0 b1 w
  have O2 := fun w => Of_any c d c0 c1 d0 d1 w
  have P1 := fun w => Pos_any a b w
  have P2 := fun w => Pos_any c d w
  have S1 := fun w => Is_any a b w
  have S2 := fun w => Is_any c d w
  have LN := fun w => Line_any a b w
  have CO := fun w => Column_any a b w
  have BF := fun w => Before_any a b c d w
  have BH := fun w => Behind_any a b s (by omega) w
  have RB := fun w => rBehind_any a b s (by omega) w
  have TX := fun w h => Text_any a b w h
  obtain ⟨L, C, hlc⟩ : ∃ L C, goB a b s.data.toList = (L, C) := ⟨_, _, rfl⟩
  rw [hlc] at BH RB
  have P3 := fun w => Pos_any L C w
  have n1 := fun t w => neq_pos (P := Tryd.prog) a b a b t w
  have n2 := fun t w => neq_pos (P := Tryd.prog) c d c d t w
  have q3 := fun t w => eql_pos (P := Tryd.prog) L C L C t w
  rw [pEq_self] at n1 n2 q3
  rw [hx] at S1
  rw [qb] at BF
  rw [show lnOf a b = a by unfold lnOf; rw [hx]; rfl] at LN
  rw [show coOf a b = b by unfold coOf; rw [hx]; rfl] at CO
  rw [hy] at S2
  obtain ⟨p1, p2, p3, p4⟩ := (isP_iff a b).1 hx
  have Da := fun w => digits_is a p1 p2 w
  have Db := fun w => digits_is b p3 p4 w
  have z1 : (⟨(Lib.decDigits a.toNat).toArray⟩ : ByteArray).size ≤ 10 := by rw [size_lit]; exact dec_short a p1 p2
  have z2 : (⟨(Lib.decDigits b.toNat).toArray⟩ : ByteArray).size ≤ 10 := by rw [size_lit]; exact dec_short b p3 p4
  rw [txt_cat a b hx] at TX
  generalize (⟨(Lib.decDigits a.toNat).toArray⟩ : ByteArray) = T1 at Da TX z1
  generalize (⟨(Lib.decDigits b.toNat).toArray⟩ : ByteArray) = T2 at Db TX z2
  obtain ⟨x1, y1, e1⟩ := posV_cx a b
  obtain ⟨x2, y2, e2⟩ := posV_cx c d
  obtain ⟨x3, y3, e3⟩ := posV_cx L C
  simp only [e1, e2, e3, plV] at O1 O2 P1 P2 P3 LN CO BF BH RB TX n1 n2 q3
  clear hE h e1 e2 e3 hlc qb hx hy
  go_enter Tryd.func3, Tryd.ntmps3
  go_wp2_with fail
  refine (hh _).mono ?_
  rintro e v1 ⟨rfl, rfl⟩
  clear hh
  go_wp2_with fail
  refine (O1 _).mono ?_
  rintro e u1 ⟨rfl, rfl⟩
  go_wp2_with fail
  refine (O2 _).mono ?_
  rintro e u2 ⟨rfl, rfl⟩
  have D0 : Below v1.heap.size v1 ((v1.alloc (.cells #[.int .i64 a, .int .i64 b] 25)).alloc (.cells #[.int .i64 c, .int .i64 d] 25)) := bt (below_new _ _) (below_new _ _)
  have X0 : Two ((v1.alloc (.cells #[.int .i64 a, .int .i64 b] 25)).alloc (.cells #[.int .i64 c, .int .i64 d] 25)) v1.heap.size a b := (Two.new v1 a b _ _ rfl).alloc _ (by simp)
  have Y0 : Two ((v1.alloc (.cells #[.int .i64 a, .int .i64 b] 25)).alloc (.cells #[.int .i64 c, .int .i64 d] 25)) (v1.heap.size + 1) c d := Two.new _ c d _ _ (by simp)
  have l0 : v1.heap.size < ((v1.alloc (.cells #[.int .i64 a, .int .i64 b] 25)).alloc (.cells #[.int .i64 c, .int .i64 d] 25)).heap.size := by simp; omega
  have m0 : v1.heap.size + 1 < ((v1.alloc (.cells #[.int .i64 a, .int .i64 b] 25)).alloc (.cells #[.int .i64 c, .int .i64 d] 25)).heap.size := by simp
  have HE0 := Lib.hid (HE.out.below D0)
  go_wp2_with fail
  refine (P1 _).mono ?_
  rintro e w1 ⟨rfl, B1⟩
  have X1 := X0.below B1 l0
  have Y1 := Y0.below B1 m0
  have l1 := Nat.lt_of_lt_of_le l0 B1.size
  have m1 := Nat.lt_of_lt_of_le m0 B1.size
  have D1 := bt D0 B1
  have HE1 := Lib.hid (HE0.out.below B1)
  clear D0 HE0 B1
  try clear f0 f1 g0 g1
  clear X0 Y0
  have f0 := X1.c0
  have f1 := X1.c1
  have g0 := Y1.c0
  have g1 := Y1.c1
  go_wp2_with fail
  refine (P2 _).mono ?_
  rintro e w2 ⟨rfl, B2⟩
  have X2 := X1.below B2 l1
  have Y2 := Y1.below B2 m1
  have l2 := Nat.lt_of_lt_of_le l1 B2.size
  have m2 := Nat.lt_of_lt_of_le m1 B2.size
  have D2 := bt D1 B2
  have HE2 := Lib.hid (HE1.out.below B2)
  clear D1 HE1 B2
  try clear f0 f1 g0 g1
  clear X1 Y1
  have f0 := X2.c0
  have f1 := X2.c1
  have g0 := Y2.c0
  have g1 := Y2.c1
  go_wp2_with fail
  refine (S1 _).mono ?_
  rintro e w3 ⟨rfl, B3⟩
  have X3 := X2.below B3 l2
  have Y3 := Y2.below B3 m2
  have l3 := Nat.lt_of_lt_of_le l2 B3.size
  have m3 := Nat.lt_of_lt_of_le m2 B3.size
  have D3 := bt D2 B3
  have HE3 := Lib.hid (HE2.out.below B3)
  clear D2 HE2 B3
  try clear f0 f1 g0 g1
  clear X2 Y2
  have f0 := X3.c0
  have f1 := X3.c1
  have g0 := Y3.c0
  have g1 := Y3.c1
  go_wp2_with fail
  refine (Da _).mono ?_
  rintro e w4 ⟨rfl, B4⟩
  have X4 := X3.below B4 l3
  have Y4 := Y3.below B4 m3
  have l4 := Nat.lt_of_lt_of_le l3 B4.size
  have m4 := Nat.lt_of_lt_of_le m3 B4.size
  have D4 := bt D3 B4
  have HE4 := Lib.hid (HE3.out.below B4)
  clear D3 HE3 B4
  try clear f0 f1 g0 g1
  clear X3 Y3
  have f0 := X4.c0
  have f1 := X4.c1
  have g0 := Y4.c0
  have g1 := Y4.c1
  go_wp2_with fail
  refine (Db _).mono ?_
  rintro e w5 ⟨rfl, B5⟩
  have X5 := X4.below B5 l4
  have Y5 := Y4.below B5 m4
  have l5 := Nat.lt_of_lt_of_le l4 B5.size
  have m5 := Nat.lt_of_lt_of_le m4 B5.size
  have D5 := bt D4 B5
  have HE5 := Lib.hid (HE4.out.below B5)
  clear D4 HE4 B5
  try clear f0 f1 g0 g1
  clear X4 Y4
  have f0 := X5.c0
  have f1 := X5.c1
  have g0 := Y5.c0
  have g1 := Y5.c1
  go_wp2_with fail
  refine (S1 _).mono ?_
  rintro e w6 ⟨rfl, B6⟩
  have X6 := X5.below B6 l5
  have Y6 := Y5.below B6 m5
  have l6 := Nat.lt_of_lt_of_le l5 B6.size
  have m6 := Nat.lt_of_lt_of_le m5 B6.size
  have D6 := bt D5 B6
  have HE6 := Lib.hid (HE5.out.below B6)
  clear D5 HE5 B6
  try clear f0 f1 g0 g1
  clear X5 Y5
  have f0 := X6.c0
  have f1 := X6.c1
  have g0 := Y6.c0
  have g1 := Y6.c1
  go_wp2_with fail
  refine (S2 _).mono ?_
  rintro e w7 ⟨rfl, B7⟩
  have X7 := X6.below B7 l6
  have Y7 := Y6.below B7 m6
  have l7 := Nat.lt_of_lt_of_le l6 B7.size
  have m7 := Nat.lt_of_lt_of_le m6 B7.size
  have D7 := bt D6 B7
  have HE7 := Lib.hid (HE6.out.below B7)
  clear D6 HE6 B7
  try clear f0 f1 g0 g1
  clear X6 Y6
  have f0 := X7.c0
  have f1 := X7.c1
  have g0 := Y7.c0
  have g1 := Y7.c1
  go_wp2_with fail
  have K0 : w7.cell? ⟨v1.heap.size, 0, none⟩ = some (.int .i64 a) ∧ w7.cell? ⟨v1.heap.size, 1, none⟩ = some (.int .i64 b) ∧ RestX v1 w7 := ⟨X7.c0, X7.c1, HE7.out, D7, l7⟩
  clear X7 Y7 D7 HE7 f0 f1 g0 g1
  go_region_held3 (fun w' => w'.cell? ⟨v1.heap.size, 0, none⟩ = some (.int .i64 a) ∧ w'.cell? ⟨v1.heap.size, 1, none⟩ = some (.int .i64 b) ∧ RestX v1 w') (first | assumption | exact kept_drew (by assumption) | exact kept_step (by assumption) Bk) (first
    | (go_at_call 15; refine (LN _).mono ?_; rintro e wk ⟨rfl, rfl⟩)
    | (go_at_call 16; refine (CO _).mono ?_; rintro e wk ⟨rfl, rfl⟩)
    | (go_at_call 17; refine (BH _).mono ?_; rintro e wk ⟨rfl, rfl⟩)
    | (go_at_call 18; refine (RB _).mono ?_; rintro e wk ⟨rfl, Bk⟩)
    | (go_at_call 12; refine (P3 _).mono ?_; rintro e wk ⟨rfl, Bk⟩)
    | (go_at_call 19; refine (BF _).mono ?_; rintro e wk ⟨rfl, rfl⟩)
    | (go_at_call 20; refine (TX _ (kept_env (by assumption))).mono ?_; rintro e wk ⟨rfl, Bk⟩)
    | (go_at_call 10; refine (works_any _ (kept_env (by assumption))).mono ?_; rintro e wk ⟨rfl, Bk⟩))
  all_goals
    go_wp2_with fail
    go_ret
    exact ⟨rfl, kept_below (by assumption)⟩
theorem tells_el (a b c d : Int) (a0 : -9223372036854775808 ≤ a) (a1 : a ≤ 9223372036854775807) (b0 : -9223372036854775808 ≤ b) (b1 : b ≤ 9223372036854775807) (c0 : -9223372036854775808 ≤ c) (c1 : c ≤ 9223372036854775807) (d0 : -9223372036854775808 ≤ d) (d1 : d ≤ 9223372036854775807) (s : ByteArray) (h : decide (4096 < s.size) = false) (hx : isP a b = true) (hy : isP c d = true) (h1 : ¬ a < c) (h2 : a = c) (h3 : b < d) (qb : pBef a b c d = true) (w : World) (hE : Env w) :
    Calls Tryd.prog 3 #[.int .i64 a, .int .i64 b, .int .i64 c, .int .i64 d, .string s] w fun e w' => e = .returned (.bool true) ∧ Below w.heap.size w w' := by
  have hh := fun w => heavy_any s w
  rw [h] at hh
  have hs : s.size ≤ 4096 := by simpa using h
  have HE := Lib.hid hE
  have O1 := fun w => Of_any a b a0 a1 b0 b1 w
  have O2 := fun w => Of_any c d c0 c1 d0 d1 w
  have P1 := fun w => Pos_any a b w
  have P2 := fun w => Pos_any c d w
  have S1 := fun w => Is_any a b w
  have S2 := fun w => Is_any c d w
  have LN := fun w => Line_any a b w
  have CO := fun w => Column_any a b w
  have BF := fun w => Before_any a b c d w
  have BH := fun w => Behind_any a b s (by omega) w
  have RB := fun w => rBehind_any a b s (by omega) w
  have TX := fun w h => Text_any a b w h
  obtain ⟨L, C, hlc⟩ : ∃ L C, goB a b s.data.toList = (L, C) := ⟨_, _, rfl⟩
  rw [hlc] at BH RB
  have P3 := fun w => Pos_any L C w
  have n1 := fun t w => neq_pos (P := Tryd.prog) a b a b t w
  have n2 := fun t w => neq_pos (P := Tryd.prog) c d c d t w
  have q3 := fun t w => eql_pos (P := Tryd.prog) L C L C t w
  rw [pEq_self] at n1 n2 q3
  rw [hx] at S1
  rw [qb] at BF
  rw [show lnOf a b = a by unfold lnOf; rw [hx]; rfl] at LN
  rw [show coOf a b = b by unfold coOf; rw [hx]; rfl] at CO
  rw [hy] at S2
  obtain ⟨p1, p2, p3, p4⟩ := (isP_iff a b).1 hx
  have Da := fun w => digits_is a p1 p2 w
  have Db := fun w => digits_is b p3 p4 w
  have z1 : (⟨(Lib.decDigits a.toNat).toArray⟩ : ByteArray).size ≤ 10 := by rw [size_lit]; exact dec_short a p1 p2
  have z2 : (⟨(Lib.decDigits b.toNat).toArray⟩ : ByteArray).size ≤ 10 := by rw [size_lit]; exact dec_short b p3 p4
  rw [txt_cat a b hx] at TX
  generalize (⟨(Lib.decDigits a.toNat).toArray⟩ : ByteArray) = T1 at Da TX z1
  generalize (⟨(Lib.decDigits b.toNat).toArray⟩ : ByteArray) = T2 at Db TX z2
  obtain ⟨x1, y1, e1⟩ := posV_cx a b
  obtain ⟨x2, y2, e2⟩ := posV_cx c d
  obtain ⟨x3, y3, e3⟩ := posV_cx L C
  simp only [e1, e2, e3, plV] at O1 O2 P1 P2 P3 LN CO BF BH RB TX n1 n2 q3
  subst h2
  clear hE h e1 e2 e3 hlc qb hx hy
  go_enter Tryd.func3, Tryd.ntmps3
  go_wp2_with fail
  refine (hh _).mono ?_
  rintro e v1 ⟨rfl, rfl⟩
  clear hh
  go_wp2_with fail
  refine (O1 _).mono ?_
  rintro e u1 ⟨rfl, rfl⟩
  go_wp2_with fail
  refine (O2 _).mono ?_
  rintro e u2 ⟨rfl, rfl⟩
  have D0 : Below v1.heap.size v1 ((v1.alloc (.cells #[.int .i64 a, .int .i64 b] 25)).alloc (.cells #[.int .i64 a, .int .i64 d] 25)) := bt (below_new _ _) (below_new _ _)
  have X0 : Two ((v1.alloc (.cells #[.int .i64 a, .int .i64 b] 25)).alloc (.cells #[.int .i64 a, .int .i64 d] 25)) v1.heap.size a b := (Two.new v1 a b _ _ rfl).alloc _ (by simp)
  have Y0 : Two ((v1.alloc (.cells #[.int .i64 a, .int .i64 b] 25)).alloc (.cells #[.int .i64 a, .int .i64 d] 25)) (v1.heap.size + 1) a d := Two.new _ a d _ _ (by simp)
  have l0 : v1.heap.size < ((v1.alloc (.cells #[.int .i64 a, .int .i64 b] 25)).alloc (.cells #[.int .i64 a, .int .i64 d] 25)).heap.size := by simp; omega
  have m0 : v1.heap.size + 1 < ((v1.alloc (.cells #[.int .i64 a, .int .i64 b] 25)).alloc (.cells #[.int .i64 a, .int .i64 d] 25)).heap.size := by simp
  have HE0 := Lib.hid (HE.out.below D0)
  go_wp2_with fail
  refine (P1 _).mono ?_
  rintro e w1 ⟨rfl, B1⟩
  have X1 := X0.below B1 l0
  have Y1 := Y0.below B1 m0
  have l1 := Nat.lt_of_lt_of_le l0 B1.size
  have m1 := Nat.lt_of_lt_of_le m0 B1.size
  have D1 := bt D0 B1
  have HE1 := Lib.hid (HE0.out.below B1)
  clear D0 HE0 B1
  try clear f0 f1 g0 g1
  clear X0 Y0
  have f0 := X1.c0
  have f1 := X1.c1
  have g0 := Y1.c0
  have g1 := Y1.c1
  go_wp2_with fail
  refine (P2 _).mono ?_
  rintro e w2 ⟨rfl, B2⟩
  have X2 := X1.below B2 l1
  have Y2 := Y1.below B2 m1
  have l2 := Nat.lt_of_lt_of_le l1 B2.size
  have m2 := Nat.lt_of_lt_of_le m1 B2.size
  have D2 := bt D1 B2
  have HE2 := Lib.hid (HE1.out.below B2)
  clear D1 HE1 B2
  try clear f0 f1 g0 g1
  clear X1 Y1
  have f0 := X2.c0
  have f1 := X2.c1
  have g0 := Y2.c0
  have g1 := Y2.c1
  go_wp2_with fail
  refine (S1 _).mono ?_
  rintro e w3 ⟨rfl, B3⟩
  have X3 := X2.below B3 l2
  have Y3 := Y2.below B3 m2
  have l3 := Nat.lt_of_lt_of_le l2 B3.size
  have m3 := Nat.lt_of_lt_of_le m2 B3.size
  have D3 := bt D2 B3
  have HE3 := Lib.hid (HE2.out.below B3)
  clear D2 HE2 B3
  try clear f0 f1 g0 g1
  clear X2 Y2
  have f0 := X3.c0
  have f1 := X3.c1
  have g0 := Y3.c0
  have g1 := Y3.c1
  go_wp2_with fail
  refine (Da _).mono ?_
  rintro e w4 ⟨rfl, B4⟩
  have X4 := X3.below B4 l3
  have Y4 := Y3.below B4 m3
  have l4 := Nat.lt_of_lt_of_le l3 B4.size
  have m4 := Nat.lt_of_lt_of_le m3 B4.size
  have D4 := bt D3 B4
  have HE4 := Lib.hid (HE3.out.below B4)
  clear D3 HE3 B4
  try clear f0 f1 g0 g1
  clear X3 Y3
  have f0 := X4.c0
  have f1 := X4.c1
  have g0 := Y4.c0
  have g1 := Y4.c1
  go_wp2_with fail
  refine (Db _).mono ?_
  rintro e w5 ⟨rfl, B5⟩
  have X5 := X4.below B5 l4
  have Y5 := Y4.below B5 m4
  have l5 := Nat.lt_of_lt_of_le l4 B5.size
  have m5 := Nat.lt_of_lt_of_le m4 B5.size
  have D5 := bt D4 B5
  have HE5 := Lib.hid (HE4.out.below B5)
  clear D4 HE4 B5
  try clear f0 f1 g0 g1
  clear X4 Y4
  have f0 := X5.c0
  have f1 := X5.c1
  have g0 := Y5.c0
  have g1 := Y5.c1
  go_wp2_with fail
  refine (S1 _).mono ?_
  rintro e w6 ⟨rfl, B6⟩
  have X6 := X5.below B6 l5
  have Y6 := Y5.below B6 m5
  have l6 := Nat.lt_of_lt_of_le l5 B6.size
  have m6 := Nat.lt_of_lt_of_le m5 B6.size
  have D6 := bt D5 B6
  have HE6 := Lib.hid (HE5.out.below B6)
  clear D5 HE5 B6
  try clear f0 f1 g0 g1
  clear X5 Y5
  have f0 := X6.c0
  have f1 := X6.c1
  have g0 := Y6.c0
  have g1 := Y6.c1
  go_wp2_with fail
  refine (S2 _).mono ?_
  rintro e w7 ⟨rfl, B7⟩
  have X7 := X6.below B7 l6
  have Y7 := Y6.below B7 m6
  have l7 := Nat.lt_of_lt_of_le l6 B7.size
  have m7 := Nat.lt_of_lt_of_le m6 B7.size
  have D7 := bt D6 B7
  have HE7 := Lib.hid (HE6.out.below B7)
  clear D6 HE6 B7
  try clear f0 f1 g0 g1
  clear X6 Y6
  have f0 := X7.c0
  have f1 := X7.c1
  have g0 := Y7.c0
  have g1 := Y7.c1
  go_wp2_with fail
  have K0 : w7.cell? ⟨v1.heap.size, 0, none⟩ = some (.int .i64 a) ∧ w7.cell? ⟨v1.heap.size, 1, none⟩ = some (.int .i64 b) ∧ RestX v1 w7 := ⟨X7.c0, X7.c1, HE7.out, D7, l7⟩
  clear X7 Y7 D7 HE7 f0 f1 g0 g1
  go_region_held3 (fun w' => w'.cell? ⟨v1.heap.size, 0, none⟩ = some (.int .i64 a) ∧ w'.cell? ⟨v1.heap.size, 1, none⟩ = some (.int .i64 b) ∧ RestX v1 w') (first | assumption | exact kept_drew (by assumption) | exact kept_step (by assumption) Bk) (first
    | (go_at_call 15; refine (LN _).mono ?_; rintro e wk ⟨rfl, rfl⟩)
    | (go_at_call 16; refine (CO _).mono ?_; rintro e wk ⟨rfl, rfl⟩)
    | (go_at_call 17; refine (BH _).mono ?_; rintro e wk ⟨rfl, rfl⟩)
    | (go_at_call 18; refine (RB _).mono ?_; rintro e wk ⟨rfl, Bk⟩)
    | (go_at_call 12; refine (P3 _).mono ?_; rintro e wk ⟨rfl, Bk⟩)
    | (go_at_call 19; refine (BF _).mono ?_; rintro e wk ⟨rfl, rfl⟩)
    | (go_at_call 20; refine (TX _ (kept_env (by assumption))).mono ?_; rintro e wk ⟨rfl, Bk⟩)
    | (go_at_call 10; refine (works_any _ (kept_env (by assumption))).mono ?_; rintro e wk ⟨rfl, Bk⟩))
  all_goals
    go_wp2_with fail
    go_ret
    exact ⟨rfl, kept_below (by assumption)⟩
theorem tells_eg (a b c d : Int) (a0 : -9223372036854775808 ≤ a) (a1 : a ≤ 9223372036854775807) (b0 : -9223372036854775808 ≤ b) (b1 : b ≤ 9223372036854775807) (c0 : -9223372036854775808 ≤ c) (c1 : c ≤ 9223372036854775807) (d0 : -9223372036854775808 ≤ d) (d1 : d ≤ 9223372036854775807) (s : ByteArray) (h : decide (4096 < s.size) = false) (hx : isP a b = true) (hy : isP c d = true) (h1 : ¬ a < c) (h2 : a = c) (h3 : decide (b < d) = false) (qb : pBef a b c d = false) (w : World) (hE : Env w) :
    Calls Tryd.prog 3 #[.int .i64 a, .int .i64 b, .int .i64 c, .int .i64 d, .string s] w fun e w' => e = .returned (.bool true) ∧ Below w.heap.size w w' := by
  have hh := fun w => heavy_any s w
  rw [h] at hh
  have hs : s.size ≤ 4096 := by simpa using h
  have HE := Lib.hid hE
  have O1 := fun w => Of_any a b a0 a1 b0 b1 w
  have O2 := fun w => Of_any c d c0 c1 d0 d1 w
  have P1 := fun w => Pos_any a b w
  have P2 := fun w => Pos_any c d w
  have S1 := fun w => Is_any a b w
  have S2 := fun w => Is_any c d w
  have LN := fun w => Line_any a b w
  have CO := fun w => Column_any a b w
  have BF := fun w => Before_any a b c d w
  have BH := fun w => Behind_any a b s (by omega) w
  have RB := fun w => rBehind_any a b s (by omega) w
  have TX := fun w h => Text_any a b w h
  obtain ⟨L, C, hlc⟩ : ∃ L C, goB a b s.data.toList = (L, C) := ⟨_, _, rfl⟩
  rw [hlc] at BH RB
  have P3 := fun w => Pos_any L C w
  have n1 := fun t w => neq_pos (P := Tryd.prog) a b a b t w
  have n2 := fun t w => neq_pos (P := Tryd.prog) c d c d t w
  have q3 := fun t w => eql_pos (P := Tryd.prog) L C L C t w
  rw [pEq_self] at n1 n2 q3
  rw [hx] at S1
  rw [qb] at BF
  rw [show lnOf a b = a by unfold lnOf; rw [hx]; rfl] at LN
  rw [show coOf a b = b by unfold coOf; rw [hx]; rfl] at CO
  rw [hy] at S2
  obtain ⟨p1, p2, p3, p4⟩ := (isP_iff a b).1 hx
  have Da := fun w => digits_is a p1 p2 w
  have Db := fun w => digits_is b p3 p4 w
  have z1 : (⟨(Lib.decDigits a.toNat).toArray⟩ : ByteArray).size ≤ 10 := by rw [size_lit]; exact dec_short a p1 p2
  have z2 : (⟨(Lib.decDigits b.toNat).toArray⟩ : ByteArray).size ≤ 10 := by rw [size_lit]; exact dec_short b p3 p4
  rw [txt_cat a b hx] at TX
  generalize (⟨(Lib.decDigits a.toNat).toArray⟩ : ByteArray) = T1 at Da TX z1
  generalize (⟨(Lib.decDigits b.toNat).toArray⟩ : ByteArray) = T2 at Db TX z2
  obtain ⟨x1, y1, e1⟩ := posV_cx a b
  obtain ⟨x2, y2, e2⟩ := posV_cx c d
  obtain ⟨x3, y3, e3⟩ := posV_cx L C
  simp only [e1, e2, e3, plV] at O1 O2 P1 P2 P3 LN CO BF BH RB TX n1 n2 q3
  subst h2
  clear hE h e1 e2 e3 hlc qb hx hy
  go_enter Tryd.func3, Tryd.ntmps3
  go_wp2_with fail
  refine (hh _).mono ?_
  rintro e v1 ⟨rfl, rfl⟩
  clear hh
  go_wp2_with fail
  refine (O1 _).mono ?_
  rintro e u1 ⟨rfl, rfl⟩
  go_wp2_with fail
  refine (O2 _).mono ?_
  rintro e u2 ⟨rfl, rfl⟩
  have D0 : Below v1.heap.size v1 ((v1.alloc (.cells #[.int .i64 a, .int .i64 b] 25)).alloc (.cells #[.int .i64 a, .int .i64 d] 25)) := bt (below_new _ _) (below_new _ _)
  have X0 : Two ((v1.alloc (.cells #[.int .i64 a, .int .i64 b] 25)).alloc (.cells #[.int .i64 a, .int .i64 d] 25)) v1.heap.size a b := (Two.new v1 a b _ _ rfl).alloc _ (by simp)
  have Y0 : Two ((v1.alloc (.cells #[.int .i64 a, .int .i64 b] 25)).alloc (.cells #[.int .i64 a, .int .i64 d] 25)) (v1.heap.size + 1) a d := Two.new _ a d _ _ (by simp)
  have l0 : v1.heap.size < ((v1.alloc (.cells #[.int .i64 a, .int .i64 b] 25)).alloc (.cells #[.int .i64 a, .int .i64 d] 25)).heap.size := by simp; omega
  have m0 : v1.heap.size + 1 < ((v1.alloc (.cells #[.int .i64 a, .int .i64 b] 25)).alloc (.cells #[.int .i64 a, .int .i64 d] 25)).heap.size := by simp
  have HE0 := Lib.hid (HE.out.below D0)
  go_wp2_with fail
  refine (P1 _).mono ?_
  rintro e w1 ⟨rfl, B1⟩
  have X1 := X0.below B1 l0
  have Y1 := Y0.below B1 m0
  have l1 := Nat.lt_of_lt_of_le l0 B1.size
  have m1 := Nat.lt_of_lt_of_le m0 B1.size
  have D1 := bt D0 B1
  have HE1 := Lib.hid (HE0.out.below B1)
  clear D0 HE0 B1
  try clear f0 f1 g0 g1
  clear X0 Y0
  have f0 := X1.c0
  have f1 := X1.c1
  have g0 := Y1.c0
  have g1 := Y1.c1
  go_wp2_with fail
  refine (P2 _).mono ?_
  rintro e w2 ⟨rfl, B2⟩
  have X2 := X1.below B2 l1
  have Y2 := Y1.below B2 m1
  have l2 := Nat.lt_of_lt_of_le l1 B2.size
  have m2 := Nat.lt_of_lt_of_le m1 B2.size
  have D2 := bt D1 B2
  have HE2 := Lib.hid (HE1.out.below B2)
  clear D1 HE1 B2
  try clear f0 f1 g0 g1
  clear X1 Y1
  have f0 := X2.c0
  have f1 := X2.c1
  have g0 := Y2.c0
  have g1 := Y2.c1
  go_wp2_with fail
  refine (S1 _).mono ?_
  rintro e w3 ⟨rfl, B3⟩
  have X3 := X2.below B3 l2
  have Y3 := Y2.below B3 m2
  have l3 := Nat.lt_of_lt_of_le l2 B3.size
  have m3 := Nat.lt_of_lt_of_le m2 B3.size
  have D3 := bt D2 B3
  have HE3 := Lib.hid (HE2.out.below B3)
  clear D2 HE2 B3
  try clear f0 f1 g0 g1
  clear X2 Y2
  have f0 := X3.c0
  have f1 := X3.c1
  have g0 := Y3.c0
  have g1 := Y3.c1
  go_wp2_with fail
  refine (Da _).mono ?_
  rintro e w4 ⟨rfl, B4⟩
  have X4 := X3.below B4 l3
  have Y4 := Y3.below B4 m3
  have l4 := Nat.lt_of_lt_of_le l3 B4.size
  have m4 := Nat.lt_of_lt_of_le m3 B4.size
  have D4 := bt D3 B4
  have HE4 := Lib.hid (HE3.out.below B4)
  clear D3 HE3 B4
  try clear f0 f1 g0 g1
  clear X3 Y3
  have f0 := X4.c0
  have f1 := X4.c1
  have g0 := Y4.c0
  have g1 := Y4.c1
  go_wp2_with fail
  refine (Db _).mono ?_
  rintro e w5 ⟨rfl, B5⟩
  have X5 := X4.below B5 l4
  have Y5 := Y4.below B5 m4
  have l5 := Nat.lt_of_lt_of_le l4 B5.size
  have m5 := Nat.lt_of_lt_of_le m4 B5.size
  have D5 := bt D4 B5
  have HE5 := Lib.hid (HE4.out.below B5)
  clear D4 HE4 B5
  try clear f0 f1 g0 g1
  clear X4 Y4
  have f0 := X5.c0
  have f1 := X5.c1
  have g0 := Y5.c0
  have g1 := Y5.c1
  go_wp2_with fail
  refine (S1 _).mono ?_
  rintro e w6 ⟨rfl, B6⟩
  have X6 := X5.below B6 l5
  have Y6 := Y5.below B6 m5
  have l6 := Nat.lt_of_lt_of_le l5 B6.size
  have m6 := Nat.lt_of_lt_of_le m5 B6.size
  have D6 := bt D5 B6
  have HE6 := Lib.hid (HE5.out.below B6)
  clear D5 HE5 B6
  try clear f0 f1 g0 g1
  clear X5 Y5
  have f0 := X6.c0
  have f1 := X6.c1
  have g0 := Y6.c0
  have g1 := Y6.c1
  go_wp2_with fail
  refine (S2 _).mono ?_
  rintro e w7 ⟨rfl, B7⟩
  have X7 := X6.below B7 l6
  have Y7 := Y6.below B7 m6
  have l7 := Nat.lt_of_lt_of_le l6 B7.size
  have m7 := Nat.lt_of_lt_of_le m6 B7.size
  have D7 := bt D6 B7
  have HE7 := Lib.hid (HE6.out.below B7)
  clear D6 HE6 B7
  try clear f0 f1 g0 g1
  clear X6 Y6
  have f0 := X7.c0
  have f1 := X7.c1
  have g0 := Y7.c0
  have g1 := Y7.c1
  go_wp2_with fail
  have K0 : w7.cell? ⟨v1.heap.size, 0, none⟩ = some (.int .i64 a) ∧ w7.cell? ⟨v1.heap.size, 1, none⟩ = some (.int .i64 b) ∧ RestX v1 w7 := ⟨X7.c0, X7.c1, HE7.out, D7, l7⟩
  clear X7 Y7 D7 HE7 f0 f1 g0 g1
  go_region_held3 (fun w' => w'.cell? ⟨v1.heap.size, 0, none⟩ = some (.int .i64 a) ∧ w'.cell? ⟨v1.heap.size, 1, none⟩ = some (.int .i64 b) ∧ RestX v1 w') (first | assumption | exact kept_drew (by assumption) | exact kept_step (by assumption) Bk) (first
    | (go_at_call 15; refine (LN _).mono ?_; rintro e wk ⟨rfl, rfl⟩)
    | (go_at_call 16; refine (CO _).mono ?_; rintro e wk ⟨rfl, rfl⟩)
    | (go_at_call 17; refine (BH _).mono ?_; rintro e wk ⟨rfl, rfl⟩)
    | (go_at_call 18; refine (RB _).mono ?_; rintro e wk ⟨rfl, Bk⟩)
    | (go_at_call 12; refine (P3 _).mono ?_; rintro e wk ⟨rfl, Bk⟩)
    | (go_at_call 19; refine (BF _).mono ?_; rintro e wk ⟨rfl, rfl⟩)
    | (go_at_call 20; refine (TX _ (kept_env (by assumption))).mono ?_; rintro e wk ⟨rfl, Bk⟩)
    | (go_at_call 10; refine (works_any _ (kept_env (by assumption))).mono ?_; rintro e wk ⟨rfl, Bk⟩))
  all_goals
    go_wp2_with fail
    go_ret
    exact ⟨rfl, kept_below (by assumption)⟩
theorem tells_gt (a b c d : Int) (a0 : -9223372036854775808 ≤ a) (a1 : a ≤ 9223372036854775807) (b0 : -9223372036854775808 ≤ b) (b1 : b ≤ 9223372036854775807) (c0 : -9223372036854775808 ≤ c) (c1 : c ≤ 9223372036854775807) (d0 : -9223372036854775808 ≤ d) (d1 : d ≤ 9223372036854775807) (s : ByteArray) (h : decide (4096 < s.size) = false) (hx : isP a b = true) (hy : isP c d = true) (h1 : decide (a < c) = false) (h2 : ¬ a = c) (qb : pBef a b c d = false) (w : World) (hE : Env w) :
    Calls Tryd.prog 3 #[.int .i64 a, .int .i64 b, .int .i64 c, .int .i64 d, .string s] w fun e w' => e = .returned (.bool true) ∧ Below w.heap.size w w' := by
  have hh := fun w => heavy_any s w
  rw [h] at hh
  have hs : s.size ≤ 4096 := by simpa using h
  have HE := Lib.hid hE
  have O1 := fun w => Of_any a b a0 a1 b0 b1 w
  have O2 := fun w => Of_any c d c0 c1 d0 d1 w
  have P1 := fun w => Pos_any a b w
  have P2 := fun w => Pos_any c d w
  have S1 := fun w => Is_any a b w
  have S2 := fun w => Is_any c d w
  have LN := fun w => Line_any a b w
  have CO := fun w => Column_any a b w
  have BF := fun w => Before_any a b c d w
  have BH := fun w => Behind_any a b s (by omega) w
  have RB := fun w => rBehind_any a b s (by omega) w
  have TX := fun w h => Text_any a b w h
  obtain ⟨L, C, hlc⟩ : ∃ L C, goB a b s.data.toList = (L, C) := ⟨_, _, rfl⟩
  rw [hlc] at BH RB
  have P3 := fun w => Pos_any L C w
  have n1 := fun t w => neq_pos (P := Tryd.prog) a b a b t w
  have n2 := fun t w => neq_pos (P := Tryd.prog) c d c d t w
  have q3 := fun t w => eql_pos (P := Tryd.prog) L C L C t w
  rw [pEq_self] at n1 n2 q3
  rw [hx] at S1
  rw [qb] at BF
  rw [show lnOf a b = a by unfold lnOf; rw [hx]; rfl] at LN
  rw [show coOf a b = b by unfold coOf; rw [hx]; rfl] at CO
  rw [hy] at S2
  obtain ⟨p1, p2, p3, p4⟩ := (isP_iff a b).1 hx
  have Da := fun w => digits_is a p1 p2 w
  have Db := fun w => digits_is b p3 p4 w
  have z1 : (⟨(Lib.decDigits a.toNat).toArray⟩ : ByteArray).size ≤ 10 := by rw [size_lit]; exact dec_short a p1 p2
  have z2 : (⟨(Lib.decDigits b.toNat).toArray⟩ : ByteArray).size ≤ 10 := by rw [size_lit]; exact dec_short b p3 p4
  rw [txt_cat a b hx] at TX
  generalize (⟨(Lib.decDigits a.toNat).toArray⟩ : ByteArray) = T1 at Da TX z1
  generalize (⟨(Lib.decDigits b.toNat).toArray⟩ : ByteArray) = T2 at Db TX z2
  obtain ⟨x1, y1, e1⟩ := posV_cx a b
  obtain ⟨x2, y2, e2⟩ := posV_cx c d
  obtain ⟨x3, y3, e3⟩ := posV_cx L C
  simp only [e1, e2, e3, plV] at O1 O2 P1 P2 P3 LN CO BF BH RB TX n1 n2 q3
  clear hE h e1 e2 e3 hlc qb hx hy
  go_enter Tryd.func3, Tryd.ntmps3
  go_wp2_with fail
  refine (hh _).mono ?_
  rintro e v1 ⟨rfl, rfl⟩
  clear hh
  go_wp2_with fail
  refine (O1 _).mono ?_
  rintro e u1 ⟨rfl, rfl⟩
  go_wp2_with fail
  refine (O2 _).mono ?_
  rintro e u2 ⟨rfl, rfl⟩
  have D0 : Below v1.heap.size v1 ((v1.alloc (.cells #[.int .i64 a, .int .i64 b] 25)).alloc (.cells #[.int .i64 c, .int .i64 d] 25)) := bt (below_new _ _) (below_new _ _)
  have X0 : Two ((v1.alloc (.cells #[.int .i64 a, .int .i64 b] 25)).alloc (.cells #[.int .i64 c, .int .i64 d] 25)) v1.heap.size a b := (Two.new v1 a b _ _ rfl).alloc _ (by simp)
  have Y0 : Two ((v1.alloc (.cells #[.int .i64 a, .int .i64 b] 25)).alloc (.cells #[.int .i64 c, .int .i64 d] 25)) (v1.heap.size + 1) c d := Two.new _ c d _ _ (by simp)
  have l0 : v1.heap.size < ((v1.alloc (.cells #[.int .i64 a, .int .i64 b] 25)).alloc (.cells #[.int .i64 c, .int .i64 d] 25)).heap.size := by simp; omega
  have m0 : v1.heap.size + 1 < ((v1.alloc (.cells #[.int .i64 a, .int .i64 b] 25)).alloc (.cells #[.int .i64 c, .int .i64 d] 25)).heap.size := by simp
  have HE0 := Lib.hid (HE.out.below D0)
  go_wp2_with fail
  refine (P1 _).mono ?_
  rintro e w1 ⟨rfl, B1⟩
  have X1 := X0.below B1 l0
  have Y1 := Y0.below B1 m0
  have l1 := Nat.lt_of_lt_of_le l0 B1.size
  have m1 := Nat.lt_of_lt_of_le m0 B1.size
  have D1 := bt D0 B1
  have HE1 := Lib.hid (HE0.out.below B1)
  clear D0 HE0 B1
  try clear f0 f1 g0 g1
  clear X0 Y0
  have f0 := X1.c0
  have f1 := X1.c1
  have g0 := Y1.c0
  have g1 := Y1.c1
  go_wp2_with fail
  refine (P2 _).mono ?_
  rintro e w2 ⟨rfl, B2⟩
  have X2 := X1.below B2 l1
  have Y2 := Y1.below B2 m1
  have l2 := Nat.lt_of_lt_of_le l1 B2.size
  have m2 := Nat.lt_of_lt_of_le m1 B2.size
  have D2 := bt D1 B2
  have HE2 := Lib.hid (HE1.out.below B2)
  clear D1 HE1 B2
  try clear f0 f1 g0 g1
  clear X1 Y1
  have f0 := X2.c0
  have f1 := X2.c1
  have g0 := Y2.c0
  have g1 := Y2.c1
  go_wp2_with fail
  refine (S1 _).mono ?_
  rintro e w3 ⟨rfl, B3⟩
  have X3 := X2.below B3 l2
  have Y3 := Y2.below B3 m2
  have l3 := Nat.lt_of_lt_of_le l2 B3.size
  have m3 := Nat.lt_of_lt_of_le m2 B3.size
  have D3 := bt D2 B3
  have HE3 := Lib.hid (HE2.out.below B3)
  clear D2 HE2 B3
  try clear f0 f1 g0 g1
  clear X2 Y2
  have f0 := X3.c0
  have f1 := X3.c1
  have g0 := Y3.c0
  have g1 := Y3.c1
  go_wp2_with fail
  refine (Da _).mono ?_
  rintro e w4 ⟨rfl, B4⟩
  have X4 := X3.below B4 l3
  have Y4 := Y3.below B4 m3
  have l4 := Nat.lt_of_lt_of_le l3 B4.size
  have m4 := Nat.lt_of_lt_of_le m3 B4.size
  have D4 := bt D3 B4
  have HE4 := Lib.hid (HE3.out.below B4)
  clear D3 HE3 B4
  try clear f0 f1 g0 g1
  clear X3 Y3
  have f0 := X4.c0
  have f1 := X4.c1
  have g0 := Y4.c0
  have g1 := Y4.c1
  go_wp2_with fail
  refine (Db _).mono ?_
  rintro e w5 ⟨rfl, B5⟩
  have X5 := X4.below B5 l4
  have Y5 := Y4.below B5 m4
  have l5 := Nat.lt_of_lt_of_le l4 B5.size
  have m5 := Nat.lt_of_lt_of_le m4 B5.size
  have D5 := bt D4 B5
  have HE5 := Lib.hid (HE4.out.below B5)
  clear D4 HE4 B5
  try clear f0 f1 g0 g1
  clear X4 Y4
  have f0 := X5.c0
  have f1 := X5.c1
  have g0 := Y5.c0
  have g1 := Y5.c1
  go_wp2_with fail
  refine (S1 _).mono ?_
  rintro e w6 ⟨rfl, B6⟩
  have X6 := X5.below B6 l5
  have Y6 := Y5.below B6 m5
  have l6 := Nat.lt_of_lt_of_le l5 B6.size
  have m6 := Nat.lt_of_lt_of_le m5 B6.size
  have D6 := bt D5 B6
  have HE6 := Lib.hid (HE5.out.below B6)
  clear D5 HE5 B6
  try clear f0 f1 g0 g1
  clear X5 Y5
  have f0 := X6.c0
  have f1 := X6.c1
  have g0 := Y6.c0
  have g1 := Y6.c1
  go_wp2_with fail
  refine (S2 _).mono ?_
  rintro e w7 ⟨rfl, B7⟩
  have X7 := X6.below B7 l6
  have Y7 := Y6.below B7 m6
  have l7 := Nat.lt_of_lt_of_le l6 B7.size
  have m7 := Nat.lt_of_lt_of_le m6 B7.size
  have D7 := bt D6 B7
  have HE7 := Lib.hid (HE6.out.below B7)
  clear D6 HE6 B7
  try clear f0 f1 g0 g1
  clear X6 Y6
  have f0 := X7.c0
  have f1 := X7.c1
  have g0 := Y7.c0
  have g1 := Y7.c1
  go_wp2_with fail
  have K0 : w7.cell? ⟨v1.heap.size, 0, none⟩ = some (.int .i64 a) ∧ w7.cell? ⟨v1.heap.size, 1, none⟩ = some (.int .i64 b) ∧ RestX v1 w7 := ⟨X7.c0, X7.c1, HE7.out, D7, l7⟩
  clear X7 Y7 D7 HE7 f0 f1 g0 g1
  go_region_held3 (fun w' => w'.cell? ⟨v1.heap.size, 0, none⟩ = some (.int .i64 a) ∧ w'.cell? ⟨v1.heap.size, 1, none⟩ = some (.int .i64 b) ∧ RestX v1 w') (first | assumption | exact kept_drew (by assumption) | exact kept_step (by assumption) Bk) (first
    | (go_at_call 15; refine (LN _).mono ?_; rintro e wk ⟨rfl, rfl⟩)
    | (go_at_call 16; refine (CO _).mono ?_; rintro e wk ⟨rfl, rfl⟩)
    | (go_at_call 17; refine (BH _).mono ?_; rintro e wk ⟨rfl, rfl⟩)
    | (go_at_call 18; refine (RB _).mono ?_; rintro e wk ⟨rfl, Bk⟩)
    | (go_at_call 12; refine (P3 _).mono ?_; rintro e wk ⟨rfl, Bk⟩)
    | (go_at_call 19; refine (BF _).mono ?_; rintro e wk ⟨rfl, rfl⟩)
    | (go_at_call 20; refine (TX _ (kept_env (by assumption))).mono ?_; rintro e wk ⟨rfl, Bk⟩)
    | (go_at_call 10; refine (works_any _ (kept_env (by assumption))).mono ?_; rintro e wk ⟨rfl, Bk⟩))
  all_goals
    go_wp2_with fail
    go_ret
    exact ⟨rfl, kept_below (by assumption)⟩
theorem tells_any (a b c d : Int) (s : ByteArray) (a0 : -9223372036854775808 ≤ a) (a1 : a ≤ 9223372036854775807) (b0 : -9223372036854775808 ≤ b) (b1 : b ≤ 9223372036854775807) (c0 : -9223372036854775808 ≤ c) (c1 : c ≤ 9223372036854775807) (d0 : -9223372036854775808 ≤ d) (d1 : d ≤ 9223372036854775807) (w : World) (hE : Env w) :
    Calls Tryd.prog 3 #[.int .i64 a, .int .i64 b, .int .i64 c, .int .i64 d, .string s] w fun e w' => e = .returned (.bool true) ∧ Below w.heap.size w w' := by
  cases h : decide (4096 < s.size)
  · cases hx : isP a b
    · exact tells_n a b c d a0 a1 b0 b1 c0 c1 d0 d1 s h hx (by unfold pBef; rw [hx]; rfl) w hE
    · cases hy : isP c d
      · exact tells_ny a b c d a0 a1 b0 b1 c0 c1 d0 d1 s h hx hy (by unfold pBef; rw [hx, hy]; rfl) w hE
      · by_cases h1 : a < c
        · exact tells_lt a b c d a0 a1 b0 b1 c0 c1 d0 d1 s h hx hy h1 ((bef_lt a b c d hx hy).2 (.inl h1)) w hE
        · by_cases h2 : a = c
          · by_cases h3 : b < d
            · exact tells_el a b c d a0 a1 b0 b1 c0 c1 d0 d1 s h hx hy h1 h2 h3 ((bef_lt a b c d hx hy).2 (.inr ⟨h2, h3⟩)) w hE
            · exact tells_eg a b c d a0 a1 b0 b1 c0 c1 d0 d1 s h hx hy h1 h2 (decide_eq_false h3) (bef_no a b c d hx hy (by unfold plt; simp only; omega)) w hE
          · exact tells_gt a b c d a0 a1 b0 b1 c0 c1 d0 d1 s h hx hy (decide_eq_false h1) h2 (bef_no a b c d hx hy (by unfold plt; simp only; omega)) w hE
  · exact tells_heavy a b c d s h w hE
end Go.Proofs.YtgilhfojfmgjbaaDoor
