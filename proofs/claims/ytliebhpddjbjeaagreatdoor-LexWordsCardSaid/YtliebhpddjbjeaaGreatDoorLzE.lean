/- Package lex, walked: comments; what is blank. -/
import Derived.Test.YtliebhpddjbjeaaGreatDoorLzD
namespace Go.Proofs.YtliebhpddjbjeaaGreatDoor
open Go.RowKit
set_option maxHeartbeats 1000000
set_option maxRecDepth 100000
set_option linter.unusedVariables false

theorem ext_drop (s : ByteArray) (k : Nat) (hk : k ≤ s.size) : (s.extract k s.size).data.toList = s.data.toList.drop k := by
  have hl := bytes_of s
  rw [ByteArray.data_extract, Array.toList_extract, List.extract_eq_take_drop, List.take_of_length_le]
  rw [List.length_drop]; omega
theorem ext_drop_size (s : ByteArray) (k : Nat) : (s.extract k s.size).size = s.size - k := by simp
theorem pre_take (u : List UInt8) (c d : UInt8) : Lib.hasPrefix u [c, d] = decide (u.take 2 = [c, d]) := by
  unfold Lib.hasPrefix
  cases u with
  | nil => simp
  | cons a r =>
    cases r with
    | nil => simp [List.isPrefixOf]
    | cons b t =>
      by_cases h : c = a ∧ d = b
      · obtain ⟨rfl, rfl⟩ := h; simp [List.isPrefixOf]
      · rw [decide_eq_false (fun e => by simp at e; exact h ⟨e.1.symm, e.2.symm⟩)]
        simp [List.isPrefixOf]
        intro e; exact fun e2 => h ⟨e, e2⟩
theorem zpre2 (s : ByteArray) (k : Nat) (hk : k ≤ s.size) (c d : UInt8) (w : World) :
    Calls Tryz.prog 108 #[.string (s.extract k s.size), .string ⟨#[c, d]⟩] w fun e w' => e = .returned (.bool (decide ((s.data.toList.drop k).take 2 = [c, d]))) ∧ w' = w := by
  have h := Tryz.strings_HasPrefix (s.extract k s.size) ⟨#[c, d]⟩ w
  rw [ext_drop s k hk, show (ByteArray.mk #[c, d]).data.toList = [c, d] from rfl, pre_take] at h
  exact h
theorem zcomment_any (s : ByteArray) (hs : s.size ≤ 1048576) (h2 : s.data.toList.take 2 = [40, 42]) (w : World) :
    Calls Tryz.prog 109 #[.string s] w fun e w' => e = .returned (.int .i64 (((cmt 0 s.data.toList).getD 0 : Nat) : Int)) ∧ w' = w := by
  go_enter Tryz.func109, Tryz.ntmps109
  go_wp2_with fail
  go_loop [3, 4] (fun d i => ∃ (k dp : Nat), k ≤ s.size ∧ i = .int .i64 k ∧ d = .int .i64 dp ∧ dp ≤ k ∧ ((k = 0 ∧ dp = 0) ∨ 1 ≤ dp) ∧ cmt 0 s.data.toList = (cmt dp (s.data.toList.drop k)).map (· + k))
    (fun d i => s.size - (intOf i).toNat)
  case atStart => exact ⟨0, 0, by omega, rfl, rfl, by omega, .inl ⟨rfl, rfl⟩, by simp⟩
  case round =>
    obtain ⟨k, dp, hk, rfl, rfl, hd1, hd2, hc⟩ := hrel
    have HC := Lib.hid hc
    clear hc
    by_cases hlt : k < s.size
    · have hlt' : (k : Int) < (s.size : Int) := by omega
      have hx1 : (0 : Int) ≤ (k : Int) := by omega
      have hx2 : (k : Int) ≤ (s.size : Int) := by omega
      have P1 := fun w => zpre2 s k hk 40 42 w
      have P2 := fun w => zpre2 s k hk 42 41 w
      by_cases hlt2 : k + 1 < s.size
      · obtain ⟨a, ha⟩ : ∃ a, s[k] = a := ⟨_, rfl⟩
        obtain ⟨b, hb⟩ : ∃ b, s[k + 1] = b := ⟨_, rfl⟩
        have hdr : s.data.toList.drop k = a :: b :: s.data.toList.drop (k + 2) := by rw [byte_drop s k (by omega), byte_drop s (k + 1) hlt2, ha, hb]
        have hdr1 : s.data.toList.drop (k + 1) = b :: s.data.toList.drop (k + 2) := by rw [byte_drop s (k + 1) hlt2, hb]
        rw [hdr] at P1 P2
        by_cases c1 : a = 40 ∧ b = 42
        · rw [decide_eq_true (show (a :: b :: s.data.toList.drop (k + 2)).take 2 = [40, 42] by rw [c1.1, c1.2]; rfl)] at P1
          have HK : Hid (cmt 0 s.data.toList = (cmt (dp + 1) (s.data.toList.drop (k + 2))).map (· + (k + 2))) := Lib.hid (by
            rw [HC.out, hdr, cmt, if_pos c1, Option.map_map]
            congr 1; funext x; simp; omega)
          clear c1 hdr hdr1 P2
          go_wp2_with fail
          refine (P1 _).mono ?_
          rintro e w1 ⟨rfl, rfl⟩
          go_wp2_with fail
          go_round
          case rel => exact ⟨k + 2, dp + 1, by omega, by simp; omega, by simp, by omega, .inr (by omega), HK.out⟩
          case measure => simp [intOf]; omega
        · rw [decide_eq_false (show ¬ (a :: b :: s.data.toList.drop (k + 2)).take 2 = [40, 42] by intro e; simp at e; exact c1 e)] at P1
          have hk0 : 1 ≤ dp := by
            rcases hd2 with ⟨q1, q2⟩ | q
            · exfalso
              subst q1
              rw [List.drop_zero] at hdr
              rw [hdr] at h2
              simp at h2
              exact c1 h2
            · exact q
          by_cases c2 : a = 42 ∧ b = 41
          · rw [decide_eq_true (show (a :: b :: s.data.toList.drop (k + 2)).take 2 = [42, 41] by rw [c2.1, c2.2]; rfl)] at P2
            by_cases c3 : dp = 1
            · have t3 : (((dp : Nat) : Int) - 1 == 0) = true := by rw [beq_iff_eq]; omega
              have HT : Hid (((cmt 0 s.data.toList).getD 0 : Nat) = k + 2) := Lib.hid (by
                rw [HC.out, hdr, cmt, if_neg c1, if_pos c2, if_pos (by omega)]
                simp; omega)
              clear c1 c2 hdr hdr1
              go_wp2_with fail
              refine (P1 _).mono ?_
              rintro e w1 ⟨rfl, rfl⟩
              clear P1
              go_wp2_with fail
              refine (P2 _).mono ?_
              rintro e w1 ⟨rfl, rfl⟩
              go_wp2_with fail
              go_ret
              exact ⟨by rw [HT.out]; simp; omega, rfl⟩
            · have t3 : (((dp : Nat) : Int) - 1 == 0) = false := by rw [beq_eq_false_iff_ne]; omega
              have HK : Hid (cmt 0 s.data.toList = (cmt (dp - 1) (s.data.toList.drop (k + 2))).map (· + (k + 2))) := Lib.hid (by
                rw [HC.out, hdr, cmt, if_neg c1, if_pos c2, if_neg (by omega), Option.map_map]
                congr 1; funext x; simp; omega)
              clear c1 c2 hdr hdr1
              go_wp2_with fail
              refine (P1 _).mono ?_
              rintro e w1 ⟨rfl, rfl⟩
              clear P1
              go_wp2_with fail
              refine (P2 _).mono ?_
              rintro e w1 ⟨rfl, rfl⟩
              go_wp2_with fail
              go_round
              case rel => exact ⟨k + 2, dp - 1, by omega, by simp; omega, by simp; omega, by omega, .inr (by omega), HK.out⟩
              case measure => simp [intOf]; omega
          · rw [decide_eq_false (show ¬ (a :: b :: s.data.toList.drop (k + 2)).take 2 = [42, 41] by intro e; simp at e; exact c2 e)] at P2
            have HK : Hid (cmt 0 s.data.toList = (cmt dp (s.data.toList.drop (k + 1))).map (· + (k + 1))) := Lib.hid (by
              rw [HC.out, hdr, cmt, if_neg c1, if_neg c2, hdr1, Option.map_map]
              congr 1; funext x; simp; omega)
            clear c1 c2 hdr hdr1
            go_wp2_with fail
            refine (P1 _).mono ?_
            rintro e w1 ⟨rfl, rfl⟩
            clear P1
            go_wp2_with fail
            refine (P2 _).mono ?_
            rintro e w1 ⟨rfl, rfl⟩
            go_wp2_with fail
            go_round
            case rel => exact ⟨k + 1, dp, by omega, by simp, rfl, by omega, .inr hk0, HK.out⟩
            case measure => simp [intOf]; omega
      · have hdr : s.data.toList.drop k = [s[k]] := by
          have : s.data.toList.drop (k + 1) = [] := List.drop_of_length_le (by rw [bytes_of]; omega)
          rw [byte_drop s k hlt, this]
        have hdr1 : s.data.toList.drop (k + 1) = [] := List.drop_of_length_le (by rw [bytes_of]; omega)
        have hk0 : 1 ≤ dp := by
          rcases hd2 with ⟨q1, q2⟩ | q
          · exfalso
            subst q1
            rw [List.drop_zero] at hdr
            rw [hdr] at h2
            simp at h2
          · exact q
        rw [hdr, decide_eq_false (by simp)] at P1 P2
        have HK : Hid (cmt 0 s.data.toList = (cmt dp (s.data.toList.drop (k + 1))).map (· + (k + 1))) := Lib.hid (by
          rw [HC.out, hdr, hdr1]; simp [cmt])
        clear hdr hdr1
        go_wp2_with fail
        refine (P1 _).mono ?_
        rintro e w1 ⟨rfl, rfl⟩
        clear P1
        go_wp2_with fail
        refine (P2 _).mono ?_
        rintro e w1 ⟨rfl, rfl⟩
        go_wp2_with fail
        go_round
        case rel => exact ⟨k + 1, dp, by omega, by simp, rfl, by omega, .inr hk0, HK.out⟩
        case measure => simp [intOf]; omega
    · have hlt' : ¬ (k : Int) < (s.size : Int) := by omega
      have HT : Hid (((cmt 0 s.data.toList).getD 0 : Nat) = 0) := Lib.hid (by
        have : s.data.toList.drop k = [] := List.drop_of_length_le (by rw [bytes_of]; omega)
        rw [HC.out, this, cmt]; rfl)
      go_wp2_with fail
      go_ret
      exact ⟨by rw [HT.out]; rfl, rfl⟩
/-- So many bytes at the beginning are blank: scanning goes on behind them. -/
def Skp (u : List UInt8) (k : Nat) : Prop := ∀ (S : List UInt8) (off : Nat) (done : List (T0 × Nat × Nat)), S.drop off = u → scanAt S off done → scanAt S (off + k) done
theorem skp_zero (u : List UInt8) : Skp u 0 := fun S off done _ h => h
theorem skp_trans (u : List UInt8) (a b : Nat) (h : Skp u a) (g : Skp (u.drop a) b) : Skp u (a + b) := fun S off done e hs => by
  have h1 := h S off done e hs
  have h2 := g S (off + a) done (by rw [← e, List.drop_drop]) h1
  rw [Nat.add_assoc] at h2; exact h2
theorem skp_blanks : ∀ u : List UInt8, Skp u (u.takeWhile isBl).length
  | [] => skp_zero []
  | c :: r => by
    cases hc : isBl c
    · have : (c :: r).takeWhile isBl = [] := by rw [List.takeWhile_cons, if_neg (by rw [hc]; decide)]
      rw [this]; exact skp_zero _
    · have hw : (c :: r).takeWhile isBl = c :: r.takeWhile isBl := by rw [List.takeWhile_cons, if_pos hc]
      rw [hw, List.length_cons, Nat.add_comm]
      refine skp_trans _ 1 _ (fun S off done e hs => ?_) (skp_blanks r)
      exact scanAt_skip S off 1 done hs (by rw [e]; simp) (by rw [e]; exact stp_blank _ hc)
theorem cmt_head (u : List UInt8) (h : u.take 2 = [40, 42]) : ∃ r, u = 40 :: 42 :: r := by
  cases u with
  | nil => simp at h
  | cons a r =>
    cases r with
    | nil => simp at h
    | cons b t =>
      simp at h
      exact ⟨t, by rw [h.1, h.2]⟩
theorem skp_cmt (u : List UInt8) (n : Nat) (h : u.take 2 = [40, 42]) (hc : cmt 0 u = some n) : Skp u n := fun S off done e hs => by
  obtain ⟨r, rfl⟩ := cmt_head u h
  refine scanAt_skip S off n done hs (by rw [e]; simp) ?_
  rw [e]
  exact stp_cmt _ n (show isBl 40 = false by decide) h hc
/-- What blank answers of a source: it skips so many bytes; behind them nothing, or a token's first byte, or a comment that does not end. -/
structure BlkPost (u : List UInt8) (k : Nat) (e : Int) : Prop where
  le : k ≤ u.length
  skp : Skp u k
  behind : (e = 0 ∧ (u.drop k = [] ∨ (u.drop k ≠ [] ∧ stp (u.drop k) = oneL (u.drop k)))) ∨ (e = 43 ∧ u.drop k ≠ [] ∧ stp (u.drop k) = (none, 0, 43))
theorem zblank_src (s : ByteArray) (hs : s.size ≤ 1048576) (w : World) :
    Calls Tryz.prog 90 #[.string s] w fun e w' => ∃ (k : Nat) (x : Int), e = .returned (.tuple #[.int .i64 k, .int .i64 x]) ∧ BlkPost s.data.toList k x ∧ w' = w := by
  go_enter Tryz.func90, Tryz.ntmps90
  go_wp2_with fail
  go_loop [2] (fun i => ∃ k : Nat, k ≤ s.size ∧ i = .int .i64 k ∧ Skp s.data.toList k) (fun i => s.size - (intOf i).toNat)
  case atStart => exact ⟨0, by omega, rfl, skp_zero _⟩
  case round =>
    obtain ⟨k, hk, rfl, hsk⟩ := hrel
    have HS := Lib.hid hsk
    clear hsk
    have hlen := bytes_of s
    by_cases hlt : k < s.size
    · have hlt' : (k : Int) < (s.size : Int) := by omega
      have hx1 : (0 : Int) ≤ (k : Int) := by omega
      have hx2 : (k : Int) ≤ (s.size : Int) := by omega
      have HC := fun w => count_blank (s.extract k s.size) (by rw [ext_drop_size]; omega) w
      have HP := fun w => zpre2 s k hk 40 42 w
      have HM : (s.data.toList.drop k).take 2 = [40, 42] → ∀ w, Calls Tryz.prog 109 #[.string (s.extract k s.size)] w fun e w' => e = .returned (.int .i64 (((cmt 0 (s.data.toList.drop k)).getD 0 : Nat) : Int)) ∧ w' = w := fun h w => by
        have := zcomment_any (s.extract k s.size) (by rw [ext_drop_size]; omega) (by rw [ext_drop s k hk]; exact h) w
        rw [ext_drop s k hk] at this; exact this
      rw [ext_drop s k hk] at HC
      have hdl : (s.data.toList.drop k).length = s.size - k := by rw [List.length_drop, hlen]
      have hne : s.data.toList.drop k ≠ [] := fun e => by rw [e] at hdl; simp at hdl; omega
      by_cases hc : (s.data.toList.drop k).take 2 = [40, 42]
      · rw [decide_eq_true hc] at HP
        have HM := HM hc
        cases hq : cmt 0 (s.data.toList.drop k) with
        | none =>
          rw [hq] at HM
          have HB : Hid (BlkPost s.data.toList k 43) := Lib.hid ⟨by omega, HS.out, .inr ⟨rfl, hne, by
            obtain ⟨r, hr⟩ := cmt_head _ hc
            unfold stp
            rw [if_neg (by rw [hr]; show ¬ isBl 40 = true; decide), if_pos hc, hq]⟩⟩
          have HMn : ∀ w, Calls Tryz.prog 109 #[.string (s.extract k s.size)] w fun e w' => e = .returned (.int .i64 0) ∧ w' = w := HM
          generalize (List.takeWhile isBl (s.data.toList.drop k)).length = m at HC
          clear HM hq hc hne hdl hlen
          go_wp2_with fail
          refine (HC _).mono ?_
          rintro e w1 ⟨rfl, rfl⟩
          go_wp2_with fail
          refine (HP _).mono ?_
          rintro e w1 ⟨rfl, rfl⟩
          go_wp2_with fail
          refine (HMn _).mono ?_
          rintro e w1 ⟨rfl, rfl⟩
          go_wp2_with fail
          go_ret2
          exact ⟨k, 43, rfl, HB.out, rfl⟩
        | some n =>
          rw [hq] at HM
          have hb := cmt_bd _ _ _ hq
          have HK : Hid (Skp s.data.toList (k + n)) := Lib.hid (skp_trans _ _ _ HS.out (skp_cmt _ n hc hq))
          have hn1 := hb.1
          have hn2 : n ≤ s.size - k := by rw [← hdl]; exact hb.2
          have hnz : ((n : Int) == 0) = false := beq_eq_false_iff_ne.2 (by omega)
          have HMn : ∀ w, Calls Tryz.prog 109 #[.string (s.extract k s.size)] w fun e w' => e = .returned (.int .i64 n) ∧ w' = w := HM
          generalize (List.takeWhile isBl (s.data.toList.drop k)).length = m at HC
          clear HM hq hc hne hdl hlen hb
          go_wp2_with fail
          refine (HC _).mono ?_
          rintro e w1 ⟨rfl, rfl⟩
          go_wp2_with fail
          refine (HP _).mono ?_
          rintro e w1 ⟨rfl, rfl⟩
          go_wp2_with fail
          refine (HMn _).mono ?_
          rintro e w1 ⟨rfl, rfl⟩
          go_wp2_with fail
          go_round
          case rel => exact ⟨k + n, by omega, by simp, HK.out⟩
          case measure => simp [intOf]; omega
      · rw [decide_eq_false hc] at HP
        have HKK := Lib.hid (skp_trans _ k _ HS.out (skp_blanks (s.data.toList.drop k)))
        have hml : (List.takeWhile isBl (s.data.toList.drop k)).length ≤ s.size - k := by rw [← hdl]; exact (List.takeWhile_prefix _).length_le
        by_cases hm : (List.takeWhile isBl (s.data.toList.drop k)).length = 0
        · have HB : Hid (BlkPost s.data.toList k 0) := Lib.hid ⟨by omega, HS.out, .inl ⟨rfl, .inr ⟨hne, by
            unfold stp
            rw [if_neg ?_, if_neg hc]
            intro hb
            cases hu : s.data.toList.drop k with
            | nil => exact hne hu
            | cons a r =>
              rw [hu] at hb hm
              rw [List.takeWhile_cons, if_pos (show isBl a = true from hb)] at hm
              simp at hm⟩⟩⟩
          rw [hm] at HC
          clear hm hc hne hdl hlen hml HKK HM
          go_wp2_with fail
          refine (HC _).mono ?_
          rintro e w1 ⟨rfl, rfl⟩
          go_wp2_with fail
          refine (HP _).mono ?_
          rintro e w1 ⟨rfl, rfl⟩
          go_wp2_with fail
          go_ret2
          exact ⟨k, 0, rfl, HB.out, rfl⟩
        · generalize (List.takeWhile isBl (s.data.toList.drop k)).length = m at HC hml hm HKK
          have hmz : ((m : Int) == 0) = false := beq_eq_false_iff_ne.2 (by omega)
          clear hc hne hdl hlen HM
          go_wp2_with fail
          refine (HC _).mono ?_
          rintro e w1 ⟨rfl, rfl⟩
          go_wp2_with fail
          refine (HP _).mono ?_
          rintro e w1 ⟨rfl, rfl⟩
          go_wp2_with fail
          go_round
          case rel => exact ⟨k + m, by omega, by simp, HKK.out⟩
          case measure => simp [intOf]; omega
    · have hlt' : ¬ (k : Int) < (s.size : Int) := by omega
      have HB : Hid (BlkPost s.data.toList k 0) := Lib.hid ⟨by omega, HS.out, .inl ⟨rfl, .inl (List.drop_of_length_le (by omega))⟩⟩
      go_wp2_with fail
      go_ret2
      exact ⟨k, 0, rfl, HB.out, rfl⟩
end Go.Proofs.YtliebhpddjbjeaaGreatDoor
