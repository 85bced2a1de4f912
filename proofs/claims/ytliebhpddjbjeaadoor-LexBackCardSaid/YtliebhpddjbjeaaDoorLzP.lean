/- Package lex, walked: names; and the document's examples. -/
import Derived.Test.YtliebhpddjbjeaaDoorLzO
import Derived.Test.YtliebhpddjbjeaaDoorPpC
namespace Go.Proofs.YtliebhpddjbjeaaDoor
open Go.RowKit
set_option maxHeartbeats 2000000
set_option maxRecDepth 100000
set_option linter.unusedVariables false

theorem tw_whole (p : UInt8 → Bool) : ∀ l : List UInt8, decide ((l.takeWhile p).length = l.length) = l.all p
  | [] => rfl
  | c :: r => by
    cases hc : p c
    · rw [List.takeWhile_cons, if_neg (by rw [hc]; decide), List.all_cons, hc]; rfl
    · rw [List.takeWhile_cons, if_pos hc, List.all_cons, hc, ← tw_whole p r]
      simp
theorem zName_any (s : ByteArray) (hs : s.size ≤ 1048576) (w : World) :
    Calls Tryd.prog 10 #[.string s] w fun e w' => e = .returned (.bool (nameB s.data.toList)) ∧ w' = w := by
  have hem := empty_test s
  have HD : Hid (nameB s.data.toList = (!s.data.toList.isEmpty && decide (s.data.toList.length ≤ 32) && (s.data.toList.take 1).all isLt && !wordB s.data.toList && s.data.toList.all isAn)) := Lib.hid rfl
  by_cases h0 : s.size = 0
  · rw [decide_eq_true h0] at hem
    have HT : Hid (nameB s.data.toList = false) := Lib.hid (by
      have : s.data.toList = [] := List.length_eq_zero_iff.1 (by rw [bytes_of]; exact h0)
      rw [this]; rfl)
    go_enter Tryd.func10, Tryd.ntmps10
    go_wp2_with fail
    go_ret
    exact ⟨by rw [HT.out]; first | done | rfl, rfl⟩
  · rw [decide_eq_false h0] at hem
    have h0' : 0 < s.size := by omega
    by_cases h32 : 32 < s.size
    · have HT : Hid (nameB s.data.toList = false) := Lib.hid (by
        rw [HD.out, bytes_of, decide_eq_false (by omega : ¬ s.size ≤ 32)]; simp)
      have hq : decide ((s.size : Int) ≤ 32) = false := decide_eq_false (by omega)
      clear HD
      go_enter Tryd.func10, Tryd.ntmps10
      go_wp2_with fail
      go_ret
      exact ⟨by rw [HT.out]; first | done | rfl, rfl⟩
    · obtain ⟨r, hr⟩ := byte_cons s h0'
      have hq : decide ((s.size : Int) ≤ 32) = true := decide_eq_true (by omega)
      have hq2 : (s.size : Int) ≤ 32 := by omega
      have hx0 : (0 : Int) < (s.size : Int) := by omega
      have HL := fun w => zletter_any s[0] w
      have HC := fun w => count_name s hs w
      have HW := fun w => zWord_any s w
      have hall := tw_whole isAn s.data.toList
      rw [bytes_of] at hall
      have hpre : (s.data.toList.takeWhile isAn).length ≤ s.size := by rw [← bytes_of]; exact (List.takeWhile_prefix _).length_le
      obtain ⟨c, hc⟩ : ∃ c, s[0] = c := ⟨_, rfl⟩
      rw [hc] at HL hr
      have HD2 : Hid (nameB s.data.toList = (isLt c && !wordB s.data.toList && s.data.toList.all isAn)) := Lib.hid (by
        have h2 : s.data.toList.length ≤ 32 := by rw [bytes_of]; omega
        rw [HD.out, decide_eq_true h2]
        rw [hr]
        simp)
      clear HD hr
      cases hl : isLt c
      · rw [hl] at HL HD2
        clear HC HW hall
        go_enter Tryd.func10, Tryd.ntmps10
        go_wp2_with fail
        refine (HL _).mono ?_
        rintro e w1 ⟨rfl, rfl⟩
        go_wp2_with fail
        go_ret
        exact ⟨by rw [HD2.out]; simp, rfl⟩
      · rw [hl] at HL HD2
        cases ha : s.data.toList.all isAn
        · rw [ha] at hall HD2
          have hne : (((s.data.toList.takeWhile isAn).length : Int) == (s.size : Int)) = false := by
            rw [beq_eq_false_iff_ne]; have := of_decide_eq_false hall; omega
          generalize (s.data.toList.takeWhile isAn).length = m at HC hne
          clear HW hall ha
          go_enter Tryd.func10, Tryd.ntmps10
          go_wp2_with fail
          refine (HL _).mono ?_
          rintro e w1 ⟨rfl, rfl⟩
          go_wp2_with fail
          refine (HC _).mono ?_
          rintro e w1 ⟨rfl, rfl⟩
          go_wp2_with fail
          go_ret
          exact ⟨by rw [HD2.out]; simp, rfl⟩
        · rw [ha] at hall HD2
          have hee := of_decide_eq_true hall
          rw [hee] at HC
          clear hall ha
          cases hz : wordB s.data.toList
          all_goals
            rw [hz] at HW HD2
            go_enter Tryd.func10, Tryd.ntmps10
            go_wp2_with fail
            refine (HL _).mono ?_
            rintro e w1 ⟨rfl, rfl⟩
            clear HL
            go_wp2_with fail
            refine (HC _).mono ?_
            rintro e w1 ⟨rfl, rfl⟩
            clear HC
            go_wp2_with fail
            refine (HW _).mono ?_
            rintro e w1 ⟨rfl, rfl⟩
            go_wp2_with fail
            go_ret
            exact ⟨by rw [HD2.out]; first | done | rfl, rfl⟩
def srcA : List UInt8 := [97, 58, 61, 48, 70, 70, 72, 32, 40, 42, 32, 98, 32, 42, 41]
theorem scanA : scanS 0 srcA = ([(⟨1, [97], 0⟩, 0, 1), (⟨5, [58, 61], 0⟩, 1, 3), (⟨2, [], 255⟩, 3, 7)], 15, 0) := by kernel_rfl
theorem scanB : scanS 0 [49, 46, 46, 50] = ([(⟨2, [], 1⟩, 0, 1), (⟨5, [46, 46], 0⟩, 1, 3), (⟨2, [], 2⟩, 3, 4)], 4, 0) := by kernel_rfl
theorem scanC : scanS 0 [32, 57, 66] = ([], 1, 41) := by kernel_rfl
theorem posB : goB 1 1 (([32, 57, 66] : List UInt8).take 1) = (1, 2) := by kernel_rfl
theorem joinA (a b c d : TK) (h : a.1 = ⟨1, [97], 0⟩) (h1 : b.1 = ⟨5, [58, 61], 0⟩) (h2 : c.1 = ⟨2, [], 255⟩) (h3 : d.1.k = 0) : joinD 0 ([a, b, c, d].map (·.1)) = [97, 32, 58, 61, 32, 50, 53, 53] := by
  have e : Lib.decDigits 255 = [50, 53, 53] := by kernel_rfl
  simp [joinD, h, h1, h2, h3, txtT, e]
theorem scan_is_ok (s : ByteArray) (hs : s.size ≤ 16384) (S : List UInt8) (L : List (T0 × Nat × Nat)) (off : Nat) (hS : s.data.toList = S) (h : scanS 0 S = (L, off, 0)) (w : World) (hE : Env w) :
    Calls Tryd.prog 5 #[.string s] w fun e w' => ∃ v, e = .returned (.tuple #[v, .complex .f64 0 0, .int .i64 0]) ∧ Below w.heap.size w w' ∧ OwnT w' w.heap.size v (L.map (plOf S) ++ [endT S off]) := by
  refine (zScan_any s hs w hE).mono ?_
  rintro e w1 ⟨v, at1, rfl, B1, hP⟩
  rw [hS, h] at hP
  rw [hS, h]
  rcases hP with ⟨_, rfl, O1⟩ | ⟨h, _⟩
  · exact ⟨v, rfl, B1, O1⟩
  · exact absurd rfl h
theorem scan_is_err (s : ByteArray) (hs : s.size ≤ 16384) (S : List UInt8) (L : List (T0 × Nat × Nat)) (off : Nat) (x : Int) (hx : x ≠ 0) (hS : s.data.toList = S) (h : scanS 0 S = (L, off, x)) (w : World) (hE : Env w) :
    Calls Tryd.prog 5 #[.string s] w fun e w' => e = .returned (.tuple #[.slice none 0 0, posV (goB 1 1 (S.take off)).1 (goB 1 1 (S.take off)).2, .int .i64 x]) ∧ Below w.heap.size w w' := by
  refine (zScan_any s hs w hE).mono ?_
  rintro e w1 ⟨v, at1, rfl, B1, hP⟩
  rw [hS, h] at hP
  rw [hS, h]
  rcases hP with ⟨h, _⟩ | ⟨_, rfl, rfl⟩
  · exact absurd h hx
  · exact ⟨rfl, B1⟩
/-- The document's examples hold. -/
theorem zworks_any (w : World) (hE : Env w) :
    Calls Tryd.prog 4 #[] w fun e w' => e = .returned (.bool true) ∧ Below w.heap.size w w' := by
  have S1 := fun w' hb => scan_is_ok ⟨#[97, 58, 61, 48, 70, 70, 72, 32, 40, 42, 32, 98, 32, 42, 41]⟩ (by decide) srcA _ _ rfl scanA w' (hE.below hb)
  have S2 := fun w' hb => scan_is_ok ⟨#[49, 46, 46, 50]⟩ (by decide) _ _ _ rfl scanB w' (hE.below hb)
  have S3 := fun w' hb => scan_is_err ⟨#[32, 57, 66]⟩ (by decide) _ _ _ 41 (by decide) rfl scanC w' (hE.below hb)
  rw [posB] at S3
  have HO := fun w => Of_any 1 2 (by omega) (by omega) (by omega) (by omega) w
  have HW1 := fun w => zWord_any ⟨#[69, 78, 68]⟩ w
  have HW2 := fun w => zWord_any ⟨#[101, 110, 100]⟩ w
  have HN := fun w => zName_any ⟨#[101, 110, 100]⟩ (by decide) w
  rw [show wordB (⟨#[69, 78, 68]⟩ : ByteArray).data.toList = true by kernel_rfl] at HW1
  rw [show wordB (⟨#[101, 110, 100]⟩ : ByteArray).data.toList = false by kernel_rfl] at HW2
  rw [show nameB (⟨#[101, 110, 100]⟩ : ByteArray).data.toList = true by kernel_rfl] at HN
  have HQ := fun t w => eql_pos (P := Tryd.prog) 1 2 1 2 t w
  rw [show pEq 1 2 1 2 = true by decide] at HQ
  obtain ⟨x, y, exy⟩ := posV_two 1 2
  rw [exy] at HO HQ
  have HW := fun w' (hb : Below w.heap.size w w') => hE.below hb
  clear hE
  go_enter Tryd.func4, Tryd.ntmps4
  go_wp2_with fail
  refine (S1 _ (Below.refl _ _)).mono ?_
  rintro e w1 ⟨v, rfl, B1, O1⟩
  clear S1
  go_wp2_with fail
  refine (S2 _ B1).mono ?_
  rintro e w2 ⟨v2, rfl, B2, O2⟩
  clear S2
  go_wp2_with fail
  refine (S3 _ (bt B1 B2)).mono ?_
  rintro e w3 ⟨rfl, B3⟩
  clear S3
  rw [exy]
  have O1' := (O1.below B2).below B3
  have O2' := O2.below B3
  have hb3 := bt (bt B1 B2) B3
  obtain ⟨g, cap, rfl, _, _, _, _, _, a3, _⟩ := O1'.at 0 _ rfl
  obtain ⟨g', cap', e1, _, _, _, _, _, b3, _⟩ := O1'.at 1 _ rfl
  obtain ⟨rfl, rfl⟩ : g = g' ∧ cap = cap' := by injection e1 with e1 _ e2; injection e1 with e1; injection e1 with e1; exact ⟨e1, e2⟩
  obtain ⟨g', cap', e1, _, _, _, _, _, _, c4⟩ := O1'.at 2 _ rfl
  obtain ⟨rfl, rfl⟩ : g = g' ∧ cap = cap' := by injection e1 with e1 _ e2; injection e1 with e1; injection e1 with e1; exact ⟨e1, e2⟩
  obtain ⟨g', cap', e1, _, _, d0, _, _, _, _⟩ := O1'.at 3 _ rfl
  obtain ⟨rfl, rfl⟩ : g = g' ∧ cap = cap' := by injection e1 with e1 _ e2; injection e1 with e1; injection e1 with e1; exact ⟨e1, e2⟩
  obtain ⟨h, kap, rfl, _, _, _, _, _, m3, _⟩ := O2'.at 1 _ rfl
  have HJ := zJoin_any _ (by decide) _ _ w3 O1' (fun x hx hk => by
    have E3 := HW w3 hb3
    simp only [List.map_cons, List.map_nil, List.cons_append, List.nil_append, List.mem_cons, List.not_mem_nil, or_false] at hx
    rcases hx with rfl | rfl | rfl | rfl
    · exact ⟨by decide, fun w' px py qx qy hb => zw_plain1 [97] 0 (by decide) (by omega) (by omega) px py qx qy w' (E3.below hb)⟩
    · exact ⟨by decide, fun w' px py qx qy hb => zw_plain5 [58, 61] 0 (by decide) (by omega) (by omega) px py qx qy w' (E3.below hb)⟩
    · exact ⟨by rw [show txtT (plOf srcA (⟨2, [], 255⟩, 3, 7)).1 = [50, 53, 53] by kernel_rfl]; decide, fun w' px py qx qy hb => zw_num [] 255 (by decide) (by omega) (by omega) px py qx qy w' (E3.below hb)⟩
    · exact absurd rfl hk)
  have hjj := joinA (plOf srcA (⟨1, [97], 0⟩, 0, 1)) (plOf srcA (⟨5, [58, 61], 0⟩, 1, 3)) (plOf srcA (⟨2, [], 255⟩, 3, 7)) (endT srcA 15) rfl rfl rfl rfl
  have a3' : w3.cell? ⟨g, 3, none⟩ = some (.string ⟨#[97]⟩) := a3
  have b3' : w3.cell? ⟨g, 8, none⟩ = some (.string ⟨#[58, 61]⟩) := b3
  have c4' : w3.cell? ⟨g, 14, none⟩ = some (.int .i64 255) := c4
  have d0' : w3.cell? ⟨g, 15, none⟩ = some (.int .u8 0) := d0
  have m3' : w3.cell? ⟨h, 8, none⟩ = some (.string ⟨#[46, 46]⟩) := m3
  have HJ2 : Calls Tryd.prog 6 #[.slice (some ⟨g, 0, none⟩) 4 cap] w3 fun e w' => e = .returned (.string ⟨#[97, 32, 58, 61, 32, 50, 53, 53]⟩) ∧ Below w3.heap.size w3 w' := by
    refine HJ.mono ?_
    rintro e w4 ⟨rfl, B4⟩
    refine ⟨?_, B4⟩
    show Ending.returned (Value.string ⟨(joinD 0 ([plOf srcA (⟨1, [97], 0⟩, 0, 1), plOf srcA (⟨5, [58, 61], 0⟩, 1, 3), plOf srcA (⟨2, [], 255⟩, 3, 7), endT srcA 15].map (·.1))).toArray⟩) = _
    rw [hjj]
  clear HJ hjj O1 O2 O1' O2' a3 b3 c4 d0 m3 HW e1 exy
  go_wp2_with fail
  refine (HO _).mono ?_
  rintro e w4 ⟨rfl, rfl⟩
  clear HO
  go_wp2_with fail
  refine (HW1 _).mono ?_
  rintro e w4 ⟨rfl, rfl⟩
  clear HW1
  go_wp2_with fail
  refine (HW2 _).mono ?_
  rintro e w4 ⟨rfl, rfl⟩
  clear HW2
  go_wp2_with fail
  refine (HN _).mono ?_
  rintro e w4 ⟨rfl, rfl⟩
  clear HN
  go_wp2_with fail
  refine HJ2.mono ?_
  rintro e w5 ⟨rfl, B4⟩
  clear HJ2
  go_wp2_with fail
  go_ret
  exact ⟨rfl, bt hb3 B4⟩
end Go.Proofs.YtliebhpddjbjeaaDoor
