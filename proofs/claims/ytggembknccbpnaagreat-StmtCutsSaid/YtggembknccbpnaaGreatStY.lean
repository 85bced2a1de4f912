/- Law 7: the document's examples; rows that are cut. -/
import Derived.Test.YtggembknccbpnaaGreatStX
import Derived.Test.YtggembknccbpnaaGreatMeI
namespace Go.Proofs.YtggembknccbpnaaGreat
open Go.RowKit
set_option maxHeartbeats 4000000
set_option maxRecDepth 100000
set_option linter.unusedVariables false
set_option linter.unusedSimpArgs false

theorem Says.err {B : Nat} {W0 : World} {res : Re} {e : Ending} {w' : World} (h : Says B W0 res e w') {j : Nat} (hr : res = .bad j) :
    e = .returned (.tuple #[.pointer none, .int .i64 j, .int .i64 60]) ∧ Below B W0 w' := by
  subst hr
  obtain ⟨hb, ⟨d, i, u, h1, _⟩ | ⟨i, h1, rfl⟩⟩ := h
  · cases h1
  · cases h1
    exact ⟨rfl, hb⟩
theorem row_at (s : ByteArray) (hs : s.size ≤ 16384) : (rowT s.data.toList).length ≤ 16384 ∧ ∀ x ∈ rowT s.data.toList, x.1.x.length ≤ 65536 := by
  have hlen : s.data.toList.length = s.size := by rw [Array.length_toList]; rfl
  exact ⟨Nat.le_trans (row_len _) (by omega), row_txt _ (by omega)⟩
theorem Says.flat {B : Nat} {W0 : World} {res : Re} {e : Ending} {w' : World} (h : Says B W0 res e w') :
    ∃ pv, ∃ ev : Int, e = .returned (.tuple #[pv, .int .i64 res.pl, .int .i64 ev]) ∧ Below B W0 w' ∧ ((∃ d j, res = .ok d j ∧ ev = 0) ∨ ∃ j, res = .bad j ∧ ev = 60) := by
  obtain ⟨hb, ⟨d, j, u, h1, rfl, _⟩ | ⟨j, h1, rfl⟩⟩ := h
  · subst h1
    exact ⟨_, 0, rfl, hb, .inl ⟨d, j, rfl, rfl⟩⟩
  · subst h1
    exact ⟨_, 60, rfl, hb, .inr ⟨j, rfl, rfl⟩⟩
theorem heavy7 (s : ByteArray) (w : World) :
    Calls Tryz.prog 7 #[.string s] w fun e w' => e = .returned (.bool (decide ((2048 : Int) < (s.size : Int)))) ∧ w' = w := by
  go_enter Tryz.func7, Tryz.ntmps7
  go_wp2_with fail
  go_ret
  exact ⟨rfl, rfl⟩
theorem body0 (ts : List TK) (rv : Value) (w : World) (hrow : RowAt w w.heap.size rv ts) (htl : ts.length ≤ 16384) (htx : ∀ x ∈ ts, x.1.x.length ≤ 65536) :
    Calls Tryz.prog 10 #[rv, .int .i64 0] w (Says w.heap.size w (BM ts 0)) :=
  Body_any ts rv 0 w hrow (Nat.zero_le _) htl htx (bm_pr (agr_refl 0 ts) 0 (Nat.zero_le _)).2.1
theorem fin_of7 {ts : List TK} : (∃ d n, BM ts 0 = .ok d n ∧ n ≤ ts.length) ∨ ∃ n, BM ts 0 = .bad n ∧ n ≤ ts.length := by
  obtain ⟨hb, hf, _⟩ := bm_pr (agr_refl 0 ts) 0 (Nat.zero_le _)
  cases hr : BM ts 0 with
  | ok d n => exact .inl ⟨d, n, rfl, (hb.1 _ _ hr).2⟩
  | bad n => exact .inr ⟨n, rfl, (hb.2 _ hr).2⟩
  | out => exact absurd hr hf
/-- How many kids a tree has, and the next place. -/
def kidsOf : Re → Option (Nat × Nat)
  | .ok (.node _ ks) j => some (ks.length, j)
  | _ => none
theorem dtL_len7 : ∀ l : List Tr, (dtL l).length = l.length
  | [] => rfl
  | t :: r => by simp [dtL, dtL_len7 r]
theorem Says.kids {B : Nat} {W0 : World} {res : Re} {e : Ending} {w' : World} (h : Says B W0 res e w') {n j : Nat} (hr : kidsOf res = some (n, j)) (hn : 0 < n) :
    ∃ p d q cap, e = .returned (.tuple #[ptrV p, .int .i64 j, .int .i64 0]) ∧ Below B W0 w' ∧ w'.heap[p]? = some (nodeO d (.slice q n cap)) := by
  obtain ⟨hb, ⟨d, i, u, rfl, rfl, hu, hd⟩ | ⟨i, rfl, rfl⟩⟩ := h
  · cases u with
    | node p nd ks =>
      subst hd
      obtain ⟨_, ⟨v, hv, hrow, _⟩, _⟩ := hu
      have hl : ks.length = n ∧ i = j := by simpa [kidsOf, Tr.dt, dtL_len7] using hr
      obtain ⟨rfl, rfl⟩ := hl
      obtain ⟨g, cap, e, _, _⟩ := hrow.form (by simpa using hn)
      rw [e] at hv
      simp only [List.length_map] at hv
      exact ⟨p, nd, _, _, rfl, hb, hv⟩
  · simp [kidsOf] at hr
def srcA : ByteArray := ⟨#[97, 32, 58, 61, 32, 49, 59, 59, 32, 102, 40, 120, 41]⟩
def srcB : ByteArray := ⟨#[73, 70, 32, 97, 32, 84, 72, 69, 78]⟩
theorem exA : kidsOf (BM (rowT srcA.data.toList) 0) = some (2, 9) := by kernel_rfl
theorem exB : BM (rowT srcB.data.toList) 0 = .bad 3 := by kernel_rfl
theorem works7 (w : World) :
    Calls Tryz.prog 8 #[] w fun e w' => e = .returned (.bool true) ∧ Below w.heap.size w w' := by
  have R1 := fun w => Row_any srcA (by decide) w
  have R2 := fun w => Row_any srcB (by decide) w
  have E1 := fun v w h => body0 (rowT srcA.data.toList) v w h (row_at srcA (by decide)).1 (row_at srcA (by decide)).2
  have E2 := fun v w h => body0 (rowT srcB.data.toList) v w h (row_at srcB (by decide)).1 (row_at srcB (by decide)).2
  have G1 := Lib.hid exA
  have G2 := Lib.hid exB
  have RH1 := Lib.hid R1
  have RH2 := Lib.hid R2
  have EH1 := Lib.hid E1
  have EH2 := Lib.hid E2
  clear R1 R2 E1 E2
  go_enter Tryz.func8, Tryz.ntmps8
  go_wp2_with fail
  refine (RH1.out _).mono ?_
  rintro e w1 ⟨v1, rfl, B1, r1, _⟩
  have C1 := Lib.hid (EH1.out v1 w1 r1)
  clear r1
  go_wp2_with fail
  refine C1.out.mono ?_
  rintro e w2 h2
  obtain ⟨p1, d1, q1, cap1, rfl, B2, n1⟩ := h2.kids G1.out (by omega)
  have B12 := Lib.hid (bt B1 B2)
  clear B1 B2 C1 h2
  obtain ⟨q1', hq1⟩ : ∃ q, ptrV p1 = q := ⟨_, rfl⟩
  rw [hq1]
  go_wp2_with fail
  refine (RH2.out _).mono ?_
  rintro e w3 ⟨v3, rfl, B3, r3, _⟩
  have C3 := Lib.hid (EH2.out v3 w3 r3)
  clear r3
  go_wp2_with fail
  refine C3.out.mono ?_
  rintro e w4 h4
  obtain ⟨rfl, B4⟩ := h4.err G2.out
  have B34 := bt B3 B4
  have n1' := (B34.block p1 (lt_heap n1)).trans n1
  have B14 := Lib.hid (bt B12.out B34)
  have c4 : w4.cell? ⟨p1, 4, none⟩ = some (.slice q1 2 cap1) := by rw [Lib.cell_of_heap n1']; rfl
  clear B3 B4 C3 h4 B12 n1 B34 n1'
  subst hq1
  simp only [ptrV]
  go_wp2_with fail
  go_ret
  exact ⟨rfl, B14.out⟩
theorem scuts_big (s : ByteArray) (a2 : Int) (h : 2048 < s.size) (w : World) :
    Calls Tryz.prog 5 #[.string s, .int .u16 a2] w fun e w' => e = .returned (.bool true) ∧ Below w.heap.size w w' := by
  have H1 := heavy7 s w
  rw [decide_eq_true (by omega)] at H1
  have HW := Lib.hid (works7 w)
  go_enter Tryz.func5, Tryz.ntmps5
  go_wp2_with fail
  refine H1.mono ?_
  rintro e w1 ⟨rfl, rfl⟩
  go_wp2_with fail
  refine HW.out.mono ?_
  rintro e w2 ⟨rfl, hb⟩
  go_wp2_with fail
  go_ret
  exact ⟨rfl, hb⟩
theorem RowC.cutv {w : World} {B : Nat} {q : Option Addr} {L cap : Nat} {ts : List TK} (h : RowC w B (.slice q L cap) ts) (n : Nat) (hn : n ≤ ts.length) : RowAt w B (.slice q n cap) (ts.take n) := by
  obtain ⟨q', cap', e1, _, _, h4⟩ := h.cut n hn
  injection e1 with e2 e3 e4
  subst e2 e4
  exact h4
theorem scuts_ok (s : ByteArray) (a2 : Int) (l2 : 0 ≤ a2) (u2 : a2 ≤ 65535) (hs : ¬ 2048 < s.size) (w : World) :
    Calls Tryz.prog 5 #[.string s, .int .u16 a2] w fun e w' => e = .returned (.bool true) ∧ Below w.heap.size w w' := by
  have H1 := heavy7 s w
  rw [decide_eq_false (by omega)] at H1
  have H2 := Row_any s (by omega) w
  obtain ⟨hl, hx⟩ := row_at s (by omega)
  obtain ⟨ts, hts⟩ : ∃ ts, rowT s.data.toList = ts := ⟨_, rfl⟩
  rw [hts] at hl hx H2
  have HW := Lib.hid works7
  have HX := Lib.hid hx
  clear hts hx
  go_enter Tryz.func5, Tryz.ntmps5
  go_wp2_with fail
  refine H1.mono ?_
  rintro e w1 ⟨rfl, rfl⟩
  clear H1
  go_wp2_with fail
  refine H2.mono ?_
  rintro e w2 ⟨v, rfl, B2, hR⟩
  clear H2
  have H3 := body0 ts v w2 hR.1 hl HX.out
  obtain ⟨q, cap, rfl, hc1, hc2⟩ := hR.2
  have HF := Lib.hid (fin_of7 (ts := ts))
  go_wp2_with fail
  refine H3.mono ?_
  rintro e w3 h3
  obtain ⟨pv, ev, rfl, B3, hev⟩ := h3.flat
  rcases HF.out with ⟨d, n, hr, hn⟩ | ⟨n, hr, hn⟩
  · rw [hr] at hev ⊢
    obtain rfl : ev = 0 := by
      rcases hev with ⟨_, _, _, h⟩ | ⟨_, h, _⟩
      · exact h
      · cases h
    simp only [Re.pl]
    clear H3 h3 hev
    have hR3 := Lib.hid (hR.bel B3)
    have t1 : ¬ (n : Int) < 0 := by omega
    have t2 : ¬ (ts.length : Int) < (n : Int) := by omega
    have hrH := Lib.hid (show (BM ts 0).pl = n by rw [hr]; rfl)
    have B13 := Lib.hid (bt B2 B3)
    clear hr hR
    obtain ⟨m, hm, hmn⟩ : ∃ m : Nat, a2 % ((n : Int) + 1) = (m : Int) ∧ m ≤ n := by
      have h1 := Int.emod_nonneg a2 (show (n : Int) + 1 ≠ 0 by omega)
      have h2 := Int.emod_lt_of_pos a2 (show (0 : Int) < (n : Int) + 1 by omega)
      exact ⟨(a2 % ((n : Int) + 1)).toNat, by omega, by omega⟩
    have m0 : (0 : Int) ≤ (m : Int) := by omega
    have m1 : (m : Int) ≤ (cap : Int) := by omega
    have HM : Hid (m ≤ n) := Lib.hid hmn
    have C3 := Lib.hid (body0 (ts.take m) (.slice q m cap) w3 (hR3.out.cutv m (by omega)) (by rw [List.length_take]; omega) (fun x hx => HX.out x (List.mem_of_mem_take hx)))
    go_wp2_with fail
    refine C3.out.mono ?_
    rintro e w4 h4
    have HQ := bcut_any ts m (by rw [hrH.out]; exact HM.out)
    rcases HQ with ⟨d', m', h5, h6⟩ | h5
    · obtain ⟨pv', ev, rfl, B4, hev⟩ := h4.flat
      rw [h5] at hev ⊢
      obtain rfl : ev = 0 := by
        rcases hev with ⟨_, _, _, h⟩ | ⟨_, h, _⟩
        · exact h
        · cases h
      simp only [Re.pl]
      have t3 : (m' : Int) ≤ (m : Int) := by omega
      have HB := Lib.hid (bt B13.out B4)
      clear h4 h5 hev C3 h6 HM B4
      go_wp2_with fail
      refine (HW.out _).mono ?_
      rintro e w5 ⟨rfl, B5⟩
      go_wp2_with fail
      go_ret
      exact ⟨rfl, bt HB.out B5⟩
    · obtain ⟨rfl, B4⟩ := h4.err h5
      have HB := Lib.hid (bt B13.out B4)
      clear h4 h5 C3 HM B4
      go_wp2_with fail
      refine (HW.out _).mono ?_
      rintro e w5 ⟨rfl, B5⟩
      go_wp2_with fail
      go_ret
      exact ⟨rfl, bt HB.out B5⟩
  · rw [hr] at hev ⊢
    obtain rfl : ev = 60 := by
      rcases hev with ⟨_, _, h, _⟩ | ⟨_, _, h⟩
      · cases h
      · exact h
    simp only [Re.pl]
    clear H3 h3 hev
    have hR3 := Lib.hid (hR.bel B3)
    have t1 : ¬ (n : Int) < 0 := by omega
    have t2 : ¬ (ts.length : Int) < (n : Int) := by omega
    have hrH := Lib.hid (show (BM ts 0).pl = n by rw [hr]; rfl)
    have hrB := Lib.hid hr
    have B13 := Lib.hid (bt B2 B3)
    clear hr hR
    by_cases hnl : n < ts.length
    · have t4 : (n : Int) < (ts.length : Int) := by omega
      have n1 : (n : Int) + 1 ≤ (cap : Int) := by omega
      have n2 : (0 : Int) ≤ (n : Int) + 1 := by omega
      have C4 := Lib.hid (body0 (ts.take (n + 1)) (.slice q (n + 1) cap) w3 (hR3.out.cutv (n + 1) (by omega)) (by rw [List.length_take]; omega) (fun x hx => HX.out x (List.mem_of_mem_take hx)))
      go_wp2_with fail
      refine C4.out.mono ?_
      rintro e w4 h4
      obtain ⟨rfl, B4⟩ := h4.err (bcut_err ts n hrB.out)
      have hR4 := Lib.hid (hR3.out.bel B4)
      have B14 := Lib.hid (bt B13.out B4)
      clear h4 B4 C4
      obtain ⟨m, hm, hmn⟩ : ∃ m : Nat, a2 % ((n : Int) + 1) = (m : Int) ∧ m ≤ n := by
        have h1 := Int.emod_nonneg a2 (show (n : Int) + 1 ≠ 0 by omega)
        have h2 := Int.emod_lt_of_pos a2 (show (0 : Int) < (n : Int) + 1 by omega)
        exact ⟨(a2 % ((n : Int) + 1)).toNat, by omega, by omega⟩
      have m0 : (0 : Int) ≤ (m : Int) := by omega
      have m1 : (m : Int) ≤ (cap : Int) := by omega
      have HM : Hid (m ≤ n) := Lib.hid hmn
      have C3 := Lib.hid (body0 (ts.take m) (.slice q m cap) w4 (hR4.out.cutv m (by omega)) (by rw [List.length_take]; omega) (fun x hx => HX.out x (List.mem_of_mem_take hx)))
      go_wp2_with fail
      refine C3.out.mono ?_
      rintro e w5 h4
      have HQ := bcut_any ts m (by rw [hrH.out]; exact HM.out)
      rcases HQ with ⟨d', m', h5, h6⟩ | h5
      · obtain ⟨pv', ev, rfl, B4, hev⟩ := h4.flat
        rw [h5] at hev ⊢
        obtain rfl : ev = 0 := by
          rcases hev with ⟨_, _, _, h⟩ | ⟨_, h, _⟩
          · exact h
          · cases h
        simp only [Re.pl]
        have t3 : (m' : Int) ≤ (m : Int) := by omega
        have HB := Lib.hid (bt B14.out B4)
        clear h4 h5 hev C3 h6 HM B4
        go_wp2_with fail
        refine (HW.out _).mono ?_
        rintro e w6 ⟨rfl, B5⟩
        go_wp2_with fail
        go_ret
        exact ⟨rfl, bt HB.out B5⟩
      · obtain ⟨rfl, B4⟩ := h4.err h5
        have HB := Lib.hid (bt B14.out B4)
        clear h4 h5 C3 HM B4
        go_wp2_with fail
        refine (HW.out _).mono ?_
        rintro e w6 ⟨rfl, B5⟩
        go_wp2_with fail
        go_ret
        exact ⟨rfl, bt HB.out B5⟩
    · have t4 : ¬ (n : Int) < (ts.length : Int) := by omega
      obtain ⟨m, hm, hmn⟩ : ∃ m : Nat, a2 % ((n : Int) + 1) = (m : Int) ∧ m ≤ n := by
        have h1 := Int.emod_nonneg a2 (show (n : Int) + 1 ≠ 0 by omega)
        have h2 := Int.emod_lt_of_pos a2 (show (0 : Int) < (n : Int) + 1 by omega)
        exact ⟨(a2 % ((n : Int) + 1)).toNat, by omega, by omega⟩
      have m0 : (0 : Int) ≤ (m : Int) := by omega
      have m1 : (m : Int) ≤ (cap : Int) := by omega
      have HM : Hid (m ≤ n) := Lib.hid hmn
      have C3 := Lib.hid (body0 (ts.take m) (.slice q m cap) w3 (hR3.out.cutv m (by omega)) (by rw [List.length_take]; omega) (fun x hx => HX.out x (List.mem_of_mem_take hx)))
      go_wp2_with fail
      refine C3.out.mono ?_
      rintro e w4 h4
      have HQ := bcut_any ts m (by rw [hrH.out]; exact HM.out)
      rcases HQ with ⟨d', m', h5, h6⟩ | h5
      · obtain ⟨pv', ev, rfl, B4, hev⟩ := h4.flat
        rw [h5] at hev ⊢
        obtain rfl : ev = 0 := by
          rcases hev with ⟨_, _, _, h⟩ | ⟨_, h, _⟩
          · exact h
          · cases h
        simp only [Re.pl]
        have t3 : (m' : Int) ≤ (m : Int) := by omega
        have HB := Lib.hid (bt B13.out B4)
        clear h4 h5 hev C3 h6 HM B4
        go_wp2_with fail
        refine (HW.out _).mono ?_
        rintro e w5 ⟨rfl, B5⟩
        go_wp2_with fail
        go_ret
        exact ⟨rfl, bt HB.out B5⟩
      · obtain ⟨rfl, B4⟩ := h4.err h5
        have HB := Lib.hid (bt B13.out B4)
        clear h4 h5 C3 HM B4
        go_wp2_with fail
        refine (HW.out _).mono ?_
        rintro e w5 ⟨rfl, B5⟩
        go_wp2_with fail
        go_ret
        exact ⟨rfl, bt HB.out B5⟩
theorem scuts_any (s : ByteArray) (a2 : Int) (l2 : 0 ≤ a2) (u2 : a2 ≤ 65535) (w : World) :
    Calls Tryz.prog 5 #[.string s, .int .u16 a2] w fun e w' => e = .returned (.bool true) ∧ Below w.heap.size w w' := by
  by_cases h : 2048 < s.size
  · exact scuts_big s a2 h w
  · exact scuts_ok s a2 l2 u2 h w
end Go.Proofs.YtggembknccbpnaaGreat
