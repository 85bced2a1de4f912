/- The statement on how tokens stand in their source: sources without an error, and all. -/
import Derived.Test.YtkeomcdcjfgacaaDoorLzT
namespace Go.Proofs.YtkeomcdcjfgacaaDoor
open Go.RowKit
set_option maxHeartbeats 4000000
set_option maxRecDepth 100000
set_option linter.unusedVariables false

theorem cuts_ok (s more : ByteArray) (h1 : s.size ≤ 1024) (h2 : more.size ≤ 1024) (S : List UInt8) (hS : s.data.toList = S) (hz : (scanS 0 S).2.2 = 0) (w : World) (hE : Env w) :
    Calls Tryd.prog 5 #[.string s, .string more] w fun e w' => e = .returned (.bool true) ∧ Below w.heap.size w w' := by
  have hlen : S.length = s.size := by rw [← hS, Array.length_toList]; rfl
  obtain ⟨k1, k2, k3, k4, k5, k6, k7, k8⟩ := scan_ok _ S 0 (Nat.le_refl _)
  have HR := Lib.hid (row_in _ 0 _ k1 k6)
  have HB3 := Lib.hid (show (scanS 0 S).2.1 ≤ S.length by omega)
  have HM := Lib.hid (show (allT S).length = (scanS 0 S).1.length + 1 by unfold allT; simp)
  have HX := Lib.hid (show ∀ (k : Nat) (t : T0) (x y : Nat), (rowL S)[k]? = some (t, x, y) → (allT S)[k]? = some (t, goB 1 1 (S.take x), goB 1 1 (S.take y)) from fun k t x y h => by rw [all_row, List.getElem?_map, h]; rfl)
  have HN := Lib.hid (show (rowL S).length = (scanS 0 S).1.length + 1 by unfold rowL; simp)
  have HZ := Lib.hid (show (rowL S)[(scanS 0 S).1.length]? = some (⟨0, [], 0⟩, (scanS 0 S).2.1, (scanS 0 S).2.1) by unfold rowL; simp)
  have hcnt := scan_cnt _ S 0 (Nat.le_refl _)
  have HI := fun (n : Nat) (hn : n ≤ s.size) (l c : Int) (hg : goB 1 1 (S.take n) = (l, c)) (w : World) => In_at s (by omega) n hn l c (by rw [hS]; exact hg) w
  have HBf := Lib.hid (bef_no S (by omega))
  have HW := fun w' hb => zworks_any w' (hE.below hb)
  have H1 := zScan_any s (by omega) w hE
  clear hE k1 k2 k3 k4 k5 k6 k7 k8
  have hq : ¬ (1024 : Int) < (s.size : Int) := by omega
  have hq2 : ¬ (1024 : Int) < (more.size : Int) := by omega
  go_enter Tryd.func5, Tryd.ntmps5
  go_wp2_with fail
  refine H1.mono ?_
  rintro e w1 ⟨v, at1, rfl, B1, hP⟩
  clear H1
  rw [hS] at hP
  rcases hP with ⟨_, rfl, O1⟩ | ⟨hno, _⟩
  case inr => exact absurd hz hno
  rw [hS, hz]
  have O1 : OwnT w1 w.heap.size v (allT S) := O1
  obtain ⟨p, cap, hv⟩ := own_form2 O1
  obtain ⟨m, hm⟩ : ∃ m, (scanS 0 S).1.length = m := ⟨_, rfl⟩
  have HM := HM.out
  have HN := HN.out
  have HZ := HZ.out
  rw [hm] at HM HN HZ hcnt
  have hmb : m ≤ 1024 := by omega
  rw [HM] at hv
  subst hv
  have HZ := Lib.hid HZ
  have HN := Lib.hid HN
  have HO := Lib.hid O1
  have HM := Lib.hid HM
  clear O1 hm hz
  go_wp2_with fail
  refine (Begin_any _).mono ?_
  rintro e w2 ⟨rfl, rfl⟩
  go_wp2_with fail
  go_loopw [13, 14] (fun la i wr => ∃ (k : Nat) (q1 q2 : Int), k ≤ m + 1 ∧ i = .int .i64 k ∧ la = posV q1 q2 ∧ goB 1 1 (S.take (pe 0 (rowL S) k)) = (q1, q2) ∧ Below w2.heap.size w2 wr) (fun _ i _ => m + 1 - (intOf i).toNat)
  case atStart => exact ⟨0, 1, 1, by omega, rfl, rfl, rfl, Below.refl _ _⟩
  case round =>
    obtain ⟨k, q1, q2, hk, rfl, rfl, hgo, hb⟩ := hrel
    by_cases hlt : k < m + 1
    · obtain ⟨t, x, y, hr⟩ : ∃ t x y, (rowL S)[k]? = some (t, x, y) := ⟨_, _, _, List.getElem?_eq_getElem (by have := HN.out; omega)⟩
      have hxa := HX.out k t x y hr
      obtain ⟨r1, r2, r3⟩ := HR.out k t x y hr
      have r1 : pe 0 (rowL S) k ≤ x := r1
      have r2 := Nat.le_trans r2 HB3.out
      have hpn := pe_next (rowL S) 0 k t x y hr
      obtain ⟨p1, p2, hp⟩ : ∃ p1 p2, goB 1 1 (S.take x) = (p1, p2) := ⟨_, _, rfl⟩
      obtain ⟨e1, e2, he⟩ : ∃ p1 p2, goB 1 1 (S.take y) = (p1, p2) := ⟨_, _, rfl⟩
      have hxy : x ≤ y := by rcases r3 with ⟨h, _⟩ | ⟨h, _⟩ <;> omega
      have I1 := HI x (by omega) p1 p2 hp
      have I2 := HI y (by omega) e1 e2 he
      have BF := Before_any p1 p2 q1 q2
      rw [HBf.out _ _ r1 (by omega) p1 p2 q1 q2 hp hgo] at BF
      rw [hp, he] at hxa
      obtain ⟨g, cap', hvv, _, _, c0, c1, c2, _, _⟩ := (HO.out.below hb).at k _ hxa
      obtain rfl : p = some ⟨g, 0, none⟩ := by injection hvv
      have HK : Hid (goB 1 1 (S.take (pe 0 (rowL S) (k + 1))) = (e1, e2)) := Lib.hid (by rw [hpn]; exact he)
      simp only at c0 c1 c2
      clear hvv hpn hxa hr hp he hgo HI
      obtain ⟨x1, y1, z1⟩ := posV_two p1 p2
      obtain ⟨x2, y2, z2⟩ := posV_two e1 e2
      obtain ⟨x3, y3, z3⟩ := posV_two q1 q2
      have HE2 : Hid (Value.complex .f64 x2 y2 = posV e1 e2) := Lib.hid z2.symm
      rw [z1] at c1 I1 BF
      rw [z2] at c2 I2
      rw [z3] at BF ⊢
      clear z1 z2 z3
      have t3 : ¬ (y : Int) < (x : Int) := by omega
      rcases r3 with ⟨ha, hc⟩ | ⟨ha, hc⟩
      · have t1 : ((x : Int) == (y : Int)) = true := beq_iff_eq.2 (by omega)
        have t2 : ((t.k : Int) == 0) = true := beq_iff_eq.2 (by omega)
        clear ha hc
        go_wp2_with fail
        refine (I1 _).mono ?_
        rintro e w3 ⟨rfl, rfl⟩
        go_wp2_with fail
        refine (I2 _).mono ?_
        rintro e w3 ⟨rfl, rfl⟩
        go_wp2_with fail
        refine (BF _).mono ?_
        rintro e w3 ⟨rfl, rfl⟩
        go_wp2_with fail
        go_roundw
        case rel => exact ⟨k + 1, e1, e2, by omega, by simp, HE2.out, HK.out, hb⟩
        case measure => simp [intOf]; omega
      · have t1 : ((x : Int) == (y : Int)) = false := beq_eq_false_iff_ne.2 (by omega)
        have t2 : ((t.k : Int) == 0) = false := beq_eq_false_iff_ne.2 (by omega)
        clear ha hc
        go_wp2_with fail
        refine (I1 _).mono ?_
        rintro e w3 ⟨rfl, rfl⟩
        go_wp2_with fail
        refine (I2 _).mono ?_
        rintro e w3 ⟨rfl, rfl⟩
        go_wp2_with fail
        refine (BF _).mono ?_
        rintro e w3 ⟨rfl, rfl⟩
        go_wp2_with fail
        go_roundw
        case rel => exact ⟨k + 1, e1, e2, by omega, by simp, HE2.out, HK.out, hb⟩
        case measure => simp [intOf]; omega
    · obtain rfl : k = m + 1 := by omega
      have hxa := HX.out m _ _ _ HZ.out
      obtain ⟨g, cap', hvv, _, _, c0, _, _, _, _⟩ := (HO.out.below hb).at m _ hxa
      obtain rfl : p = some ⟨g, 0, none⟩ := by injection hvv
      simp only at c0
      have b2 := bt B1 hb
      have HW := HW wr b2
      obtain ⟨x3, y3, z3⟩ := posV_two q1 q2
      rw [z3]
      clear hvv hxa z3 hgo HI
      have t0 : (0 : Int) < ((m + 1 : Nat) : Int) := by omega
      go_wp2_with fail
      refine HW.mono ?_
      rintro e w4 ⟨rfl, B4⟩
      go_wp2_with fail
      go_ret
      exact ⟨rfl, bt b2 B4⟩
theorem cuts_any (s more : ByteArray) (w : World) (hE : Env w) :
    Calls Tryd.prog 5 #[.string s, .string more] w fun e w' => e = .returned (.bool true) ∧ Below w.heap.size w w' := by
  by_cases h1 : 1024 < s.size
  · exact cuts_big s more (.inl h1) w hE
  by_cases h2 : 1024 < more.size
  · exact cuts_big s more (.inr h2) w hE
  obtain ⟨S, hS⟩ : ∃ S, s.data.toList = S := ⟨_, rfl⟩
  obtain ⟨T, hT⟩ : ∃ S, more.data.toList = S := ⟨_, rfl⟩
  have hlen : S.length = s.size := by rw [← hS, Array.length_toList]; rfl
  have htl : T.length = more.size := by rw [← hT, Array.length_toList]; rfl
  by_cases hz : (scanS 0 S).2.2 = 0
  · exact cuts_ok s more (by omega) (by omega) S hS hz w hE
  obtain ⟨k1, k2, k3, k4, k5, k6, k7, k8⟩ := scan_ok _ S 0 (Nat.le_refl _)
  have k5 := k5 hz
  have HM := scan_more _ S T 0 (Nat.le_refl _) hz
  rcases hq : scanS 0 S with ⟨L, off, z⟩
  rw [hq] at hz k5 HM
  simp only at hz k5 HM
  have H1 := scan_is_err s (by omega) S L off z hz hS hq w hE
  have hcat : (s ++ ⟨#[10]⟩ ++ more).data.toList = S ++ 10 :: T := by
    rw [← hS, ← hT]; simp
  have hsz : (s ++ ⟨#[10]⟩ ++ more).size ≤ 16384 := by
    rw [ByteArray.size_append, ByteArray.size_append]
    show s.size + 1 + more.size ≤ _
    omega
  obtain ⟨p1, p2, hp⟩ : ∃ p1 p2, goB 1 1 (S.take off) = (p1, p2) := ⟨_, _, rfl⟩
  rw [hp] at H1
  have HI := In_at s (by omega) off (by omega) p1 p2 (by rw [hS]; exact hp)
  have HQ := fun t w => eql_self (P := Tryd.prog) p1 p2 t w
  obtain ⟨x, y, hxy⟩ := posV_two p1 p2
  by_cases hs : z = 40 ∨ z = 41 ∨ z = 42
  · have HM := HM (by omega)
    rcases hq2 : scanS 0 (S ++ 10 :: T) with ⟨L2, off2, z2⟩
    rw [hq2] at HM
    injection HM with e1 e2
    subst e1; subst e2
    have H2 := fun w' (hb : Below w.heap.size w w') => scan_is_err (s ++ ⟨#[10]⟩ ++ more) hsz _ L2 off2 z2 hz hcat hq2 w' (hE.below hb)
    rw [List.take_append_of_le_length (by omega), hp] at H2
    rw [hxy] at H1 HI HQ H2
    exact cuts_stay s more (by omega) (by omega) x y z2 off2 (by omega) hs w hE HQ H1 HI H2
  · rw [hxy] at H1 HI
    refine cuts_free s more (by omega) (by omega) x y z off (by omega) hz (by omega) (by omega) (by omega) w hE H1 HI fun w' hb => ?_
    refine (zScan_any _ hsz w' (hE.below hb)).mono ?_
    rintro e w1 ⟨v, a, rfl, B1, _⟩
    exact ⟨⟨v, a, _, rfl⟩, B1⟩
end Go.Proofs.YtkeomcdcjfgacaaDoor
