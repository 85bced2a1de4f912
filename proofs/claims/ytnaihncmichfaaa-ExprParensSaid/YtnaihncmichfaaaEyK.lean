/- Law 6: parentheses, walked: an expression that stands for all of its row. -/
import Derived.Test.YtnaihncmichfaaaEyJ
namespace Go.Proofs.Ytnaihncmichfaaa
open Go.RowKit
set_option maxHeartbeats 4000000
set_option maxRecDepth 100000
set_option linter.unusedVariables false
set_option linter.unusedSimpArgs false

theorem parens_ok (s : ByteArray) (a1 : Int) (l1 : 0 ≤ a1) (u1 : a1 ≤ 255) (hs : ¬ 2048 < s.size) (d : DT) (hd : exprM (rowT s.data.toList) ((rowT s.data.toList).length + 2) 0 = .ok d (rowT s.data.toList).length) (w : World) :
    Calls Try.prog 7 #[.string s, .int .u8 a1] w fun e w' => e = .returned (.bool true) ∧ Below w.heap.size w w' := by
  have H1 := rheavy_any s w
  rw [decide_eq_false (by omega)] at H1
  have H2 := Row_any s (by omega) w
  obtain ⟨hl, hx⟩ := row_at s (by omega)
  obtain ⟨k, hk, hk6⟩ : ∃ k : Nat, a1 % 6 = (k : Int) ∧ k < 6 := ⟨(a1 % 6).toNat, by omega, by omega⟩
  have hz : (scanS 0 s.data.toList).2.2 = 0 := by
    by_cases h : (scanS 0 s.data.toList).2.2 = 0
    · exact h
    · have he : rowT s.data.toList = [] := by unfold rowT; rw [if_neg h]
      rw [he] at hd
      have := mono_expr _ _ _ _ hd
      simp at this
  obtain ⟨n, hn⟩ : ∃ n, (rowT s.data.toList).length = n := ⟨_, rfl⟩
  rw [hn] at hd
  obtain ⟨d', hd', hsim⟩ := parens s.data.toList k n d hz hn hd
  have hbig : ∀ pa pb : ByteArray, pa.data.toList = List.replicate k 40 → pb.data.toList = List.replicate k 41 → (((pa ++ s) ++ ⟨#[32]⟩) ++ pb).data.toList = List.replicate k 40 ++ (s.data.toList ++ 32 :: List.replicate k 41) := by
    intro pa pb h1 h2
    simp only [bytes_data, h1, h2]
    show (List.replicate k 40 ++ s.data.toList ++ [32]) ++ List.replicate k 41 = _
    simp
  have HR2 := Lib.hid (fun (pa pb : ByteArray) (h1 : pa.data.toList = List.replicate k 40) (h2 : pb.data.toList = List.replicate k 41) (w : World) => by
    have e := hbig pa pb h1 h2
    have hsz : (((pa ++ s) ++ ⟨#[32]⟩) ++ pb).size ≤ 16384 := by
      rw [bytes_size, e]
      have := bytes_size s
      simp only [List.length_append, List.length_replicate, List.length_cons]
      omega
    have hr := Row_any (((pa ++ s) ++ ⟨#[32]⟩) ++ pb) hsz w
    have hq := row_at (((pa ++ s) ++ ⟨#[32]⟩) ++ pb) hsz
    rw [e] at hr hq
    exact And.intro hr hq)
  obtain ⟨us, hus⟩ : ∃ us, rowT (List.replicate k 40 ++ (s.data.toList ++ 32 :: List.replicate k 41)) = us := ⟨_, rfl⟩
  obtain ⟨ts, hts⟩ : ∃ ts, rowT s.data.toList = ts := ⟨_, rfl⟩
  rw [hts] at hl hx H2 hn hd
  rw [hus] at hd' HR2
  have HW := Lib.hid rworks_any
  have HX := Lib.hid hx
  have HD := Lib.hid hd
  have HD' := Lib.hid hd'
  have HS := Lib.hid hsim
  have hn16 : n ≤ 16384 := by omega
  have HN := Lib.hid hn
  have hl' := Lib.hid hl
  clear hts hus hx hd hd' hsim hbig hz hl hn
  go_enter Try.func7, Try.ntmps7
  go_wp2_with fail
  refine H1.mono ?_
  rintro e w1 ⟨rfl, rfl⟩
  clear H1
  go_wp2_with fail
  refine H2.mono ?_
  rintro e w2 ⟨v, rfl, B2, hR⟩
  clear H2
  have H3 := Lib.hid (Expr_any ts v 0 w2 hR.1 (by omega) hl'.out HX.out)
  obtain ⟨q, cap, rfl, hc1, hc2⟩ := hR.2
  clear hR hc1 hc2
  go_wp2_with fail
  refine H3.out.mono ?_
  rintro e w3 ⟨B3, ⟨d0, j, t, h1, rfl, h4, h5⟩ | ⟨j, h1, rfl⟩⟩
  case inr =>
    have := HD.out
    rw [HN.out] at h1
    rw [this] at h1
    cases h1
  rw [HN.out, HD.out] at h1
  obtain ⟨rfl, rfl⟩ : d = d0 ∧ n = j := by injection h1 with e1 e2; exact ⟨e1, e2⟩
  have hlen : ts.length = n := HN.out
  rw [hlen]
  have B13 := Lib.hid (bt B2 B3)
  have HT := Lib.hid (And.intro h4 h5)
  clear H3 h1 h4 h5 B3 B2 hlen
  obtain ⟨xv, hxv⟩ : ∃ xv, ptrV t.p = xv := ⟨_, rfl⟩
  rw [hxv]
  have HXV := Lib.hid hxv
  clear hxv
  go_wp2_with fail
  go_loop [9, 10, 11] (fun a b i => ∃ (j : Nat) (pa pb : ByteArray), j ≤ k ∧ i = .int .i64 j ∧ a = .string pa ∧ b = .string pb ∧ pa.data.toList = List.replicate j 40 ∧ pb.data.toList = List.replicate j 41) (fun _ _ i => k - (intOf i).toNat)
  case atStart => exact ⟨0, ⟨#[]⟩, ⟨#[]⟩, by omega, rfl, rfl, rfl, rfl, rfl⟩
  case round =>
    obtain ⟨j, pa, pb, hj, rfl, rfl, rfl, ha, hb⟩ := hrel
    have za : pa.size = j := by rw [bytes_size, ha, List.length_replicate]
    have zb : pb.size = j := by rw [bytes_size, hb, List.length_replicate]
    have HAB := Lib.hid (And.intro ha hb)
    clear ha hb
    by_cases hlt : j < k
    · have t0 : (j : Int) < (k : Int) := by omega
      have f1 : ¬ (9223372036854775807 : Nat) < pa.size + 1 := by omega
      have f2 : ¬ (9223372036854775807 : Nat) ≤ pa.size := by omega
      have f3 : ¬ (9223372036854775807 : Nat) < pb.size + 1 := by omega
      have f4 : ¬ (9223372036854775807 : Nat) ≤ pb.size := by omega
      clear za zb
      go_wp2_with fail
      go_round
      case rel =>
        refine ⟨j + 1, pa ++ ⟨#[40]⟩, pb ++ ⟨#[41]⟩, by omega, by simp, rfl, rfl, ?_, ?_⟩
        · rw [bytes_data, HAB.out.1]
          show List.replicate j 40 ++ [40] = _
          rw [← List.replicate_succ']
        · rw [bytes_data, HAB.out.2]
          show List.replicate j 41 ++ [41] = _
          rw [← List.replicate_succ']
      case measure => simp [intOf]; omega
    · obtain rfl : j = k := by omega
      obtain ⟨hr2, hq2⟩ := HR2.out pa pb HAB.out.1 HAB.out.2 w3
      have f1 : ¬ (9223372036854775807 : Nat) < pa.size + s.size := by omega
      have f2 : ¬ (9223372036854775807 : Nat) < pa.size + s.size + 1 := by omega
      have f3 : ¬ (9223372036854775807 : Nat) ≤ pa.size + s.size := by omega
      have f4 : ¬ (9223372036854775807 : Nat) < pa.size + s.size + 1 + pb.size := by omega
      have HR3 := Lib.hid hr2
      have HQ3 := Lib.hid hq2
      clear hr2 hq2 za zb HR2
      go_wp2_with fail
      refine HR3.out.mono ?_
      rintro e w4 ⟨v, rfl, B4, hR⟩
      have H5 := Lib.hid (Expr_any us v 0 w4 hR.1 (by omega) HQ3.out.1 HQ3.out.2)
      clear hR
      go_wp2_with fail
      refine H5.out.mono ?_
      rintro e w5 ⟨B5, ⟨d0, i, u, h1, rfl, h4, h5⟩ | ⟨i, h1, rfl⟩⟩
      case inr =>
        rw [HD'.out] at h1
        cases h1
      rw [HD'.out] at h1
      obtain ⟨rfl, rfl⟩ : d' = d0 ∧ n + 2 * j = i := by injection h1 with e1 e2; exact ⟨e1, e2⟩
      have B35 := bt B4 B5
      have hsm : sameT t u = true := simD_same t u (by rw [HT.out.2, h5]; exact HS.out)
      have HSA := Lib.hid (fun w' (hb : Below w5.heap.size w5 w') => rSame_any t.cnt t u w' (Nat.le_refl _) ((HT.out.1.below B35).below hb) (h4.below hb))
      rw [hsm] at HSA
      have HSA1 := Lib.hid (HSA.out w5 (Below.refl _ _))
      have B15 := Lib.hid (bt B13.out B35)
      clear h1 h4 h5 B4 B5 B35 H5 HR3 HQ3 HD' hsm HSA f1 f2 f3 f4
      obtain ⟨yv, hyv⟩ : ∃ yv, ptrV u.p = yv := ⟨_, rfl⟩
      rw [hyv]
      rw [hyv, HXV.out] at HSA1
      clear hyv
      go_wp2_with fail
      refine HSA1.out.mono ?_
      rintro e w6 ⟨rfl, B6⟩
      go_wp2_with fail
      refine (HW.out _).mono ?_
      rintro e w7 ⟨rfl, B7⟩
      go_wp2_with fail
      go_ret
      exact ⟨rfl, bt (bt B15.out B6) B7⟩
theorem parens_any (s : ByteArray) (a1 : Int) (l1 : 0 ≤ a1) (u1 : a1 ≤ 255) (w : World) :
    Calls Try.prog 7 #[.string s, .int .u8 a1] w fun e w' => e = .returned (.bool true) ∧ Below w.heap.size w w' := by
  by_cases h : 2048 < s.size
  · exact parens_big s a1 h w
  by_cases hd : ∃ d, exprM (rowT s.data.toList) ((rowT s.data.toList).length + 2) 0 = .ok d (rowT s.data.toList).length
  · obtain ⟨d, hd⟩ := hd
    exact parens_ok s a1 l1 u1 h d hd w
  · exact parens_not s a1 h hd w
end Go.Proofs.Ytnaihncmichfaaa
