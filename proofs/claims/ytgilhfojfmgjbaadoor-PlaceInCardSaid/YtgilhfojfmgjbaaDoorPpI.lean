/- Layer 3's laws: PlaceOrder. -/
import Derived.Test.YtgilhfojfmgjbaaDoorPpH
namespace Go.Proofs.YtgilhfojfmgjbaaDoor
open Go.RowKit
set_option maxHeartbeats 400000
set_option maxRecDepth 100000
set_option linter.unusedVariables false

theorem bef_lt (l c m d : Int) (h : isP l c = true) (g : isP m d = true) : pBef l c m d = true ↔ plt (l, c) (m, d) := by
  unfold pBef plt; rw [h, g]; simp
theorem bef_no (l c m d : Int) (h : isP l c = true) (g : isP m d = true) (k : ¬ plt (l, c) (m, d)) : pBef l c m d = false := by
  cases hb : pBef l c m d
  · rfl
  · exact absurd ((bef_lt l c m d h g).1 hb) k
theorem eq_no (l c m d : Int) (h : isP l c = true) (k : (l, c) ≠ (m, d)) : pEq l c m d = false := by
  unfold pEq; rw [h]
  cases hm : isP m d
  · rfl
  · simp; intro e1 e2; subst e1; subst e2; exact k rfl
theorem small_is (a b : Int) (a0 : 0 ≤ a) (a1 : a ≤ 65535) (b0 : 0 ≤ b) (b1 : b ≤ 65535) : isP (a + 1) (b + 1) = true := (isP_iff _ _).2 ⟨by omega, by omega, by omega, by omega⟩
theorem ord_lt1 (a b c d e f : Int) (a0 : 0 ≤ a) (a1 : a ≤ 65535) (b0 : 0 ≤ b) (b1 : b ≤ 65535) (c0 : 0 ≤ c) (c1 : c ≤ 65535) (d0 : 0 ≤ d) (d1 : d ≤ 65535) (e0 : 0 ≤ e) (e1 : e ≤ 65535) (f0 : 0 ≤ f) (f1 : f ≤ 65535)
    (qxy : pBef (a + 1) (b + 1) (c + 1) (d + 1) = true) (qyx : pBef (c + 1) (d + 1) (a + 1) (b + 1) = false) (qe : pEq (a + 1) (b + 1) (c + 1) (d + 1) = false) (qyz : pBef (c + 1) (d + 1) (e + 1) (f + 1) = true) (qxz : pBef (a + 1) (b + 1) (e + 1) (f + 1) = true) (w : World) (hE : Env w) :
    Calls Tryd.prog 6 #[.int .u16 a, .int .u16 b, .int .u16 c, .int .u16 d, .int .u16 e, .int .u16 f] w fun e w' => e = .returned (.bool true) ∧ Below w.heap.size w w' := by
  obtain ⟨x1, y1, p1⟩ := posV_cx (a + 1) (b + 1)
  obtain ⟨x2, y2, p2⟩ := posV_cx (c + 1) (d + 1)
  obtain ⟨x3, y3, p3⟩ := posV_cx (e + 1) (f + 1)
  have o1 := fun w => Of_any (a + 1) (b + 1) (by omega) (by omega) (by omega) (by omega) w
  have o2 := fun w => Of_any (c + 1) (d + 1) (by omega) (by omega) (by omega) (by omega) w
  have o3 := fun w => Of_any (e + 1) (f + 1) (by omega) (by omega) (by omega) (by omega) w
  have bxy := fun w => Before_any (a + 1) (b + 1) (c + 1) (d + 1) w
  have byx := fun w => Before_any (c + 1) (d + 1) (a + 1) (b + 1) w
  have byz := fun w => Before_any (c + 1) (d + 1) (e + 1) (f + 1) w
  have bxz := fun w => Before_any (a + 1) (b + 1) (e + 1) (f + 1) w
  have bx0 := fun w => Before_any (a + 1) (b + 1) 0 0 w
  have b0x := fun w => Before_any 0 0 (a + 1) (b + 1) w
  have qq := fun t w => eql_pos (P := Tryd.prog) (a + 1) (b + 1) (c + 1) (d + 1) t w
  rw [show pBef (a + 1) (b + 1) 0 0 = false by unfold pBef; rw [isP_zero]; simp] at bx0
  rw [show pBef 0 0 (a + 1) (b + 1) = false by unfold pBef; rw [isP_zero]; simp] at b0x
  have hz : posV 0 0 = .complex .f64 0 0 := posV_none 0 0 isP_zero
  rw [qxy] at bxy
  rw [qyx] at byx
  rw [qe] at qq
  rw [qyz] at byz
  rw [qxz] at bxz
  simp only [p1, p2, p3, hz] at o1 o2 o3 bxy byx byz bxz bx0 b0x qq
  clear p1 p2 p3 hz qxy qyx qe
  have HE := Lib.hid hE
  clear hE
  go_enter Tryd.func6, Tryd.ntmps6
  go_wp2_with fail
  refine (o1 _).mono ?_
  rintro e v1 ⟨rfl, rfl⟩
  go_wp2_with fail
  refine (o2 _).mono ?_
  rintro e v2 ⟨rfl, rfl⟩
  go_wp2_with fail
  refine (o3 _).mono ?_
  rintro e v3 ⟨rfl, rfl⟩
  go_wp2_with fail
  refine (bxy _).mono ?_
  rintro e v4 ⟨rfl, rfl⟩
  go_wp2_with fail
  refine (byx _).mono ?_
  rintro e v5 ⟨rfl, rfl⟩
  go_wp2_with fail
  refine (bxy _).mono ?_
  rintro e v6 ⟨rfl, rfl⟩
  go_wp2_with fail
  refine (byz _).mono ?_
  rintro e v7 ⟨rfl, rfl⟩
  go_wp2_with fail
  refine (bxz _).mono ?_
  rintro e v8 ⟨rfl, rfl⟩
  go_wp2_with fail
  refine (bx0 _).mono ?_
  rintro e v9 ⟨rfl, rfl⟩
  go_wp2_with fail
  refine (b0x _).mono ?_
  rintro e v10 ⟨rfl, rfl⟩
  go_wp2_with fail
  refine (works_any _ HE.out).mono ?_
  rintro e vv ⟨rfl, B⟩
  go_wp2_with fail
  go_ret
  exact ⟨rfl, B⟩
theorem ord_lt0 (a b c d e f : Int) (a0 : 0 ≤ a) (a1 : a ≤ 65535) (b0 : 0 ≤ b) (b1 : b ≤ 65535) (c0 : 0 ≤ c) (c1 : c ≤ 65535) (d0 : 0 ≤ d) (d1 : d ≤ 65535) (e0 : 0 ≤ e) (e1 : e ≤ 65535) (f0 : 0 ≤ f) (f1 : f ≤ 65535)
    (qxy : pBef (a + 1) (b + 1) (c + 1) (d + 1) = true) (qyx : pBef (c + 1) (d + 1) (a + 1) (b + 1) = false) (qe : pEq (a + 1) (b + 1) (c + 1) (d + 1) = false) (qyz : pBef (c + 1) (d + 1) (e + 1) (f + 1) = false) (w : World) (hE : Env w) :
    Calls Tryd.prog 6 #[.int .u16 a, .int .u16 b, .int .u16 c, .int .u16 d, .int .u16 e, .int .u16 f] w fun e w' => e = .returned (.bool true) ∧ Below w.heap.size w w' := by
  obtain ⟨x1, y1, p1⟩ := posV_cx (a + 1) (b + 1)
  obtain ⟨x2, y2, p2⟩ := posV_cx (c + 1) (d + 1)
  obtain ⟨x3, y3, p3⟩ := posV_cx (e + 1) (f + 1)
  have o1 := fun w => Of_any (a + 1) (b + 1) (by omega) (by omega) (by omega) (by omega) w
  have o2 := fun w => Of_any (c + 1) (d + 1) (by omega) (by omega) (by omega) (by omega) w
  have o3 := fun w => Of_any (e + 1) (f + 1) (by omega) (by omega) (by omega) (by omega) w
  have bxy := fun w => Before_any (a + 1) (b + 1) (c + 1) (d + 1) w
  have byx := fun w => Before_any (c + 1) (d + 1) (a + 1) (b + 1) w
  have byz := fun w => Before_any (c + 1) (d + 1) (e + 1) (f + 1) w
  have bxz := fun w => Before_any (a + 1) (b + 1) (e + 1) (f + 1) w
  have bx0 := fun w => Before_any (a + 1) (b + 1) 0 0 w
  have b0x := fun w => Before_any 0 0 (a + 1) (b + 1) w
  have qq := fun t w => eql_pos (P := Tryd.prog) (a + 1) (b + 1) (c + 1) (d + 1) t w
  rw [show pBef (a + 1) (b + 1) 0 0 = false by unfold pBef; rw [isP_zero]; simp] at bx0
  rw [show pBef 0 0 (a + 1) (b + 1) = false by unfold pBef; rw [isP_zero]; simp] at b0x
  have hz : posV 0 0 = .complex .f64 0 0 := posV_none 0 0 isP_zero
  rw [qxy] at bxy
  rw [qyx] at byx
  rw [qe] at qq
  rw [qyz] at byz
  simp only [p1, p2, p3, hz] at o1 o2 o3 bxy byx byz bxz bx0 b0x qq
  clear p1 p2 p3 hz qxy qyx qe
  have HE := Lib.hid hE
  clear hE
  go_enter Tryd.func6, Tryd.ntmps6
  go_wp2_with fail
  refine (o1 _).mono ?_
  rintro e v11 ⟨rfl, rfl⟩
  go_wp2_with fail
  refine (o2 _).mono ?_
  rintro e v12 ⟨rfl, rfl⟩
  go_wp2_with fail
  refine (o3 _).mono ?_
  rintro e v13 ⟨rfl, rfl⟩
  go_wp2_with fail
  refine (bxy _).mono ?_
  rintro e v14 ⟨rfl, rfl⟩
  go_wp2_with fail
  refine (byx _).mono ?_
  rintro e v15 ⟨rfl, rfl⟩
  go_wp2_with fail
  refine (bxy _).mono ?_
  rintro e v16 ⟨rfl, rfl⟩
  go_wp2_with fail
  refine (byz _).mono ?_
  rintro e v17 ⟨rfl, rfl⟩
  go_wp2_with fail
  refine (bx0 _).mono ?_
  rintro e v18 ⟨rfl, rfl⟩
  go_wp2_with fail
  refine (b0x _).mono ?_
  rintro e v19 ⟨rfl, rfl⟩
  go_wp2_with fail
  refine (works_any _ HE.out).mono ?_
  rintro e vv ⟨rfl, B⟩
  go_wp2_with fail
  go_ret
  exact ⟨rfl, B⟩
theorem ord_gt (a b c d e f : Int) (a0 : 0 ≤ a) (a1 : a ≤ 65535) (b0 : 0 ≤ b) (b1 : b ≤ 65535) (c0 : 0 ≤ c) (c1 : c ≤ 65535) (d0 : 0 ≤ d) (d1 : d ≤ 65535) (e0 : 0 ≤ e) (e1 : e ≤ 65535) (f0 : 0 ≤ f) (f1 : f ≤ 65535)
    (qxy : pBef (a + 1) (b + 1) (c + 1) (d + 1) = false) (qyx : pBef (c + 1) (d + 1) (a + 1) (b + 1) = true) (qe : pEq (a + 1) (b + 1) (c + 1) (d + 1) = false) (w : World) (hE : Env w) :
    Calls Tryd.prog 6 #[.int .u16 a, .int .u16 b, .int .u16 c, .int .u16 d, .int .u16 e, .int .u16 f] w fun e w' => e = .returned (.bool true) ∧ Below w.heap.size w w' := by
  obtain ⟨x1, y1, p1⟩ := posV_cx (a + 1) (b + 1)
  obtain ⟨x2, y2, p2⟩ := posV_cx (c + 1) (d + 1)
  obtain ⟨x3, y3, p3⟩ := posV_cx (e + 1) (f + 1)
  have o1 := fun w => Of_any (a + 1) (b + 1) (by omega) (by omega) (by omega) (by omega) w
  have o2 := fun w => Of_any (c + 1) (d + 1) (by omega) (by omega) (by omega) (by omega) w
  have o3 := fun w => Of_any (e + 1) (f + 1) (by omega) (by omega) (by omega) (by omega) w
  have bxy := fun w => Before_any (a + 1) (b + 1) (c + 1) (d + 1) w
  have byx := fun w => Before_any (c + 1) (d + 1) (a + 1) (b + 1) w
  have byz := fun w => Before_any (c + 1) (d + 1) (e + 1) (f + 1) w
  have bxz := fun w => Before_any (a + 1) (b + 1) (e + 1) (f + 1) w
  have bx0 := fun w => Before_any (a + 1) (b + 1) 0 0 w
  have b0x := fun w => Before_any 0 0 (a + 1) (b + 1) w
  have qq := fun t w => eql_pos (P := Tryd.prog) (a + 1) (b + 1) (c + 1) (d + 1) t w
  rw [show pBef (a + 1) (b + 1) 0 0 = false by unfold pBef; rw [isP_zero]; simp] at bx0
  rw [show pBef 0 0 (a + 1) (b + 1) = false by unfold pBef; rw [isP_zero]; simp] at b0x
  have hz : posV 0 0 = .complex .f64 0 0 := posV_none 0 0 isP_zero
  rw [qxy] at bxy
  rw [qyx] at byx
  rw [qe] at qq
  simp only [p1, p2, p3, hz] at o1 o2 o3 bxy byx byz bxz bx0 b0x qq
  clear p1 p2 p3 hz qxy qyx qe
  have HE := Lib.hid hE
  clear hE
  go_enter Tryd.func6, Tryd.ntmps6
  go_wp2_with fail
  refine (o1 _).mono ?_
  rintro e v20 ⟨rfl, rfl⟩
  go_wp2_with fail
  refine (o2 _).mono ?_
  rintro e v21 ⟨rfl, rfl⟩
  go_wp2_with fail
  refine (o3 _).mono ?_
  rintro e v22 ⟨rfl, rfl⟩
  go_wp2_with fail
  refine (bxy _).mono ?_
  rintro e v23 ⟨rfl, rfl⟩
  go_wp2_with fail
  refine (byx _).mono ?_
  rintro e v24 ⟨rfl, rfl⟩
  go_wp2_with fail
  refine (bxy _).mono ?_
  rintro e v25 ⟨rfl, rfl⟩
  go_wp2_with fail
  refine (bx0 _).mono ?_
  rintro e v26 ⟨rfl, rfl⟩
  go_wp2_with fail
  refine (b0x _).mono ?_
  rintro e v27 ⟨rfl, rfl⟩
  go_wp2_with fail
  refine (works_any _ HE.out).mono ?_
  rintro e vv ⟨rfl, B⟩
  go_wp2_with fail
  go_ret
  exact ⟨rfl, B⟩
theorem ord_eq' (a b c d e f : Int) (a0 : 0 ≤ a) (a1 : a ≤ 65535) (b0 : 0 ≤ b) (b1 : b ≤ 65535) (c0 : 0 ≤ c) (c1 : c ≤ 65535) (d0 : 0 ≤ d) (d1 : d ≤ 65535) (e0 : 0 ≤ e) (e1 : e ≤ 65535) (f0 : 0 ≤ f) (f1 : f ≤ 65535)
    (qxy : pBef (a + 1) (b + 1) (c + 1) (d + 1) = false) (qyx : pBef (c + 1) (d + 1) (a + 1) (b + 1) = false) (qe : pEq (a + 1) (b + 1) (c + 1) (d + 1) = true) (w : World) (hE : Env w) :
    Calls Tryd.prog 6 #[.int .u16 a, .int .u16 b, .int .u16 c, .int .u16 d, .int .u16 e, .int .u16 f] w fun e w' => e = .returned (.bool true) ∧ Below w.heap.size w w' := by
  obtain ⟨x1, y1, p1⟩ := posV_cx (a + 1) (b + 1)
  obtain ⟨x2, y2, p2⟩ := posV_cx (c + 1) (d + 1)
  obtain ⟨x3, y3, p3⟩ := posV_cx (e + 1) (f + 1)
  have o1 := fun w => Of_any (a + 1) (b + 1) (by omega) (by omega) (by omega) (by omega) w
  have o2 := fun w => Of_any (c + 1) (d + 1) (by omega) (by omega) (by omega) (by omega) w
  have o3 := fun w => Of_any (e + 1) (f + 1) (by omega) (by omega) (by omega) (by omega) w
  have bxy := fun w => Before_any (a + 1) (b + 1) (c + 1) (d + 1) w
  have byx := fun w => Before_any (c + 1) (d + 1) (a + 1) (b + 1) w
  have byz := fun w => Before_any (c + 1) (d + 1) (e + 1) (f + 1) w
  have bxz := fun w => Before_any (a + 1) (b + 1) (e + 1) (f + 1) w
  have bx0 := fun w => Before_any (a + 1) (b + 1) 0 0 w
  have b0x := fun w => Before_any 0 0 (a + 1) (b + 1) w
  have qq := fun t w => eql_pos (P := Tryd.prog) (a + 1) (b + 1) (c + 1) (d + 1) t w
  rw [show pBef (a + 1) (b + 1) 0 0 = false by unfold pBef; rw [isP_zero]; simp] at bx0
  rw [show pBef 0 0 (a + 1) (b + 1) = false by unfold pBef; rw [isP_zero]; simp] at b0x
  have hz : posV 0 0 = .complex .f64 0 0 := posV_none 0 0 isP_zero
  rw [qxy] at bxy
  rw [qyx] at byx
  rw [qe] at qq
  simp only [p1, p2, p3, hz] at o1 o2 o3 bxy byx byz bxz bx0 b0x qq
  clear p1 p2 p3 hz qxy qyx qe
  have HE := Lib.hid hE
  clear hE
  go_enter Tryd.func6, Tryd.ntmps6
  go_wp2_with fail
  refine (o1 _).mono ?_
  rintro e v28 ⟨rfl, rfl⟩
  go_wp2_with fail
  refine (o2 _).mono ?_
  rintro e v29 ⟨rfl, rfl⟩
  go_wp2_with fail
  refine (o3 _).mono ?_
  rintro e v30 ⟨rfl, rfl⟩
  go_wp2_with fail
  refine (bxy _).mono ?_
  rintro e v31 ⟨rfl, rfl⟩
  go_wp2_with fail
  refine (byx _).mono ?_
  rintro e v32 ⟨rfl, rfl⟩
  go_wp2_with fail
  refine (bxy _).mono ?_
  rintro e v33 ⟨rfl, rfl⟩
  go_wp2_with fail
  refine (bx0 _).mono ?_
  rintro e v34 ⟨rfl, rfl⟩
  go_wp2_with fail
  refine (b0x _).mono ?_
  rintro e v35 ⟨rfl, rfl⟩
  go_wp2_with fail
  refine (works_any _ HE.out).mono ?_
  rintro e vv ⟨rfl, B⟩
  go_wp2_with fail
  go_ret
  exact ⟨rfl, B⟩
theorem order_any (a b c d e f : Int) (a0 : 0 ≤ a) (a1 : a ≤ 65535) (b0 : 0 ≤ b) (b1 : b ≤ 65535) (c0 : 0 ≤ c) (c1 : c ≤ 65535) (d0 : 0 ≤ d) (d1 : d ≤ 65535) (e0 : 0 ≤ e) (e1 : e ≤ 65535) (f0 : 0 ≤ f) (f1 : f ≤ 65535) (w : World) (hE : Env w) :
    Calls Tryd.prog 6 #[.int .u16 a, .int .u16 b, .int .u16 c, .int .u16 d, .int .u16 e, .int .u16 f] w fun e w' => e = .returned (.bool true) ∧ Below w.heap.size w w' := by
  have pa := small_is a b a0 a1 b0 b1
  have pc := small_is c d c0 c1 d0 d1
  have pe := small_is e f e0 e1 f0 f1
  have hc : plt (a + 1, b + 1) (c + 1, d + 1) ∨ plt (c + 1, d + 1) (a + 1, b + 1) ∨ (a = c ∧ b = d) := by unfold plt; simp only; omega
  rcases hc with h | h | ⟨rfl, rfl⟩
  · have q1 := (bef_lt _ _ _ _ pa pc).2 h
    have q2 := bef_no _ _ _ _ pc pa (fun k => plt_ne (plt_trans h k) rfl)
    have q3 := eq_no _ _ _ _ pa (plt_ne h)
    cases hz : pBef (c + 1) (d + 1) (e + 1) (f + 1)
    · exact ord_lt0 a b c d e f a0 a1 b0 b1 c0 c1 d0 d1 e0 e1 f0 f1 q1 q2 q3 hz w hE
    · exact ord_lt1 a b c d e f a0 a1 b0 b1 c0 c1 d0 d1 e0 e1 f0 f1 q1 q2 q3 hz ((bef_lt _ _ _ _ pa pe).2 (plt_trans h ((bef_lt _ _ _ _ pc pe).1 hz))) w hE
  · exact ord_gt a b c d e f a0 a1 b0 b1 c0 c1 d0 d1 e0 e1 f0 f1 (bef_no _ _ _ _ pa pc (fun k => plt_ne (plt_trans h k) rfl)) ((bef_lt _ _ _ _ pc pa).2 h) (eq_no _ _ _ _ pa (plt_ne h).symm) w hE
  · exact ord_eq' a b a b e f a0 a1 b0 b1 a0 a1 b0 b1 e0 e1 f0 f1 (bef_no _ _ _ _ pa pa (fun k => plt_ne k rfl)) (bef_no _ _ _ _ pa pa (fun k => plt_ne k rfl)) (by unfold pEq; simp) w hE
end Go.Proofs.YtgilhfojfmgjbaaDoor
