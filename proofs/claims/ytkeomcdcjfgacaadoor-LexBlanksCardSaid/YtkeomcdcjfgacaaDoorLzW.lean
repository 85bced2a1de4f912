/- The statement on blanks between tokens, walked whole. -/
import Derived.Test.YtkeomcdcjfgacaaDoorLzV
namespace Go.Proofs.YtkeomcdcjfgacaaDoor
open Go.RowKit
set_option maxHeartbeats 4000000
set_option maxRecDepth 100000
set_option linter.unusedVariables false

theorem blanks_works (s : ByteArray) (p : Option Addr) (n cap : Nat) (hn : n ≤ 9223372036854775807) (h : 2048 < s.size ∨ 300 < n) (w : World) (hE : Env w) :
    Calls Tryd.prog 4 #[.string s, .slice p n cap] w fun e w' => e = .returned (.bool true) ∧ Below w.heap.size w w' := by
  have HW := zworks_any w hE
  clear hE
  by_cases h1 : 2048 < s.size
  · have hq : (2048 : Int) < (s.size : Int) := by omega
    go_enter Tryd.func4, Tryd.ntmps4
    go_wp2_with fail
    refine HW.mono ?_
    rintro e w1 ⟨rfl, B1⟩
    go_wp2_with fail
    go_ret
    exact ⟨rfl, B1⟩
  · have hq : ¬ (2048 : Int) < (s.size : Int) := by omega
    have hq2 : (300 : Int) < (n : Int) := by omega
    go_enter Tryd.func4, Tryd.ntmps4
    go_wp2_with fail
    refine HW.mono ?_
    rintro e w1 ⟨rfl, B1⟩
    go_wp2_with fail
    go_ret
    exact ⟨rfl, B1⟩
theorem blanks_err (s : ByteArray) (h1 : s.size ≤ 2048) (p : Option Addr) (n cap : Nat) (hn : n ≤ 300) (hz : (scanS 0 s.data.toList).2.2 ≠ 0) (w : World) (hE : Env w) :
    Calls Tryd.prog 4 #[.string s, .slice p n cap] w fun e w' => e = .returned (.bool true) ∧ Below w.heap.size w w' := by
  have H1 := scan_is_err s (by omega) _ (scanS 0 s.data.toList).1 (scanS 0 s.data.toList).2.1 (scanS 0 s.data.toList).2.2 hz rfl rfl w hE
  have HW := fun w' hb => zworks_any w' (hE.below hb)
  clear hE
  have hq : ¬ (2048 : Int) < (s.size : Int) := by omega
  have hq2 : ¬ (300 : Int) < (n : Int) := by omega
  have t0 : ((scanS 0 s.data.toList).2.2 != 0) = true := by rw [bne, beq_eq_false_iff_ne.2 hz]; rfl
  obtain ⟨x, y, hxy⟩ := posV_two (goB 1 1 (s.data.toList.take (scanS 0 s.data.toList).2.1)).1 (goB 1 1 (s.data.toList.take (scanS 0 s.data.toList).2.1)).2
  rw [hxy] at H1
  generalize (scanS 0 s.data.toList).2.2 = z at *
  clear hxy hz
  go_enter Tryd.func4, Tryd.ntmps4
  go_wp2_with fail
  refine H1.mono ?_
  rintro e w1 ⟨rfl, B1⟩
  have HW := HW w1 B1
  clear H1
  go_wp2_with fail
  refine HW.mono ?_
  rintro e w4 ⟨rfl, B4⟩
  go_wp2_with fail
  go_ret
  exact ⟨rfl, bt B1 B4⟩
/-- The tokens, written with blanks, are scanned again as the same ones; or the text is too long. -/
def Again (S : List UInt8) (X : List UInt8) : Prop := (X.length ≤ 16384 ∧ ∀ w', Env w' → Calls Tryd.prog 8 #[.string ⟨X.toArray⟩] w' fun e w'' => ∃ v L, e = .returned (.tuple #[v, .complex .f64 0 0, .int .i64 0]) ∧ Below w'.heap.size w' w'' ∧ OwnT w'' w'.heap.size v L ∧ alikeL (allT S) L = true) ∨
  (16384 < X.length ∧ ∀ w', Calls Tryd.prog 8 #[.string ⟨X.toArray⟩] w' fun e w'' => ∃ x y, e = .returned (.tuple #[.slice none 0 0, .complex .f64 x y, .int .i64 5]) ∧ Below w'.heap.size w' w'')
theorem again_of (S : List UInt8) (h0 : (scanS 0 S).2.2 = 0) (sp : Nat → List UInt8) (hsp : ∀ j, sp j ∈ sepsL) (k : Nat) (hk : (scanS 0 S).1.length ≤ k) : Again S (blT (accT ((scanS 0 S).1.map (·.1)) sp k)) := by
  obtain ⟨k1, _, _, _, _, _, _, _⟩ := scan_ok _ S 0 (Nat.le_refl _)
  have hin := acc_in ((scanS 0 S).1.map (·.1)) sp k
  have hmap := acc_map ((scanS 0 S).1.map (·.1)) sp k
  rw [List.take_of_length_le (by rw [List.length_map]; exact hk)] at hmap
  obtain ⟨A, hA⟩ : ∃ A, accT ((scanS 0 S).1.map (·.1)) sp k = A := ⟨_, rfl⟩
  rw [hA] at hin hmap ⊢
  obtain ⟨b1, b2⟩ := blanks_back A 0 (fun x hx => by
    obtain ⟨h1, j, h2⟩ := hin x hx
    obtain ⟨y, hy, he⟩ := List.mem_map.1 h1
    exact ⟨he ▸ k1 y hy, h2 ▸ hsp j⟩)
  rw [hmap] at b1
  by_cases hl : (blT A).length ≤ 16384
  · refine .inl ⟨hl, fun w' hE => ?_⟩
    rcases hq : scanS 0 (blT A) with ⟨L2, off2, z2⟩
    rw [hq] at b1 b2
    have b2 : z2 = 0 := b2
    subst b2
    refine (scan_is_ok ⟨(blT A).toArray⟩ (by rw [size_of_lit]; exact hl) (blT A) L2 off2 (by simp) hq w' hE).mono ?_
    rintro e w1 ⟨v, rfl, B1, O1⟩
    refine ⟨v, _, rfl, B1, O1, alike_same _ _ ?_⟩
    rw [all_map, List.map_append, List.map_map]
    have b1 : L2.map (·.1) = (scanS 0 S).1.map (·.1) := b1
    rw [← b1]; rfl
  · refine .inr ⟨by omega, fun w' => ?_⟩
    refine (zScan_long ⟨(blT A).toArray⟩ (by rw [size_of_lit]; omega) w').mono ?_
    rintro e w1 ⟨rfl, B1⟩
    obtain ⟨x, y, h⟩ := posV_two 1 1
    exact ⟨x, y, by rw [h], B1⟩
theorem blanks_ok (s : ByteArray) (h1 : s.size ≤ 2048) (S : List UInt8) (hS : s.data.toList = S) (p : Option Addr) (bs : List Int) (cap : Nat) (hn : bs.length ≤ 300) (hz : (scanS 0 S).2.2 = 0) (w : World) (hE : Env w) (hbs : BytesIn w p bs) :
    Calls Tryd.prog 4 #[.string s, .slice p bs.length cap] w fun e w' => e = .returned (.bool true) ∧ Below w.heap.size w w' := by
  have hlen : S.length = s.size := by rw [← hS, Array.length_toList]; rfl
  obtain ⟨k1, _, _, _, _, _, _, _⟩ := scan_ok _ S 0 (Nat.le_refl _)
  have hcnt := scan_cnt _ S 0 (Nat.le_refl _)
  have hfit := scan_fits _ S 0 (Nat.le_refl _)
  obtain ⟨m, hm⟩ : ∃ m, (scanS 0 S).1.length = m := ⟨_, rfl⟩
  obtain ⟨A, hA⟩ : ∃ A, (scanS 0 S).1.map (·.1) = A := ⟨_, rfl⟩
  have HL := Lib.hid (acc_len A (spL bs) (fun j => (spL_in bs j).2) (fun t ht => by
    rw [← hA] at ht
    obtain ⟨y, hy, he⟩ := List.mem_map.1 ht
    have := hfit y hy
    rw [he] at this; omega))
  have HG := Lib.hid (again_of S hz (spL bs) (fun j => (spL_in bs j).1))
  have HT := Lib.hid (show ∀ (k : Nat) (x : TK), (allT S)[k]? = some x → (k < m ∧ x.1.k ≠ 0 ∧ txtOk x.1 ∧ A[k]? = some x.1) ∨ (k = m ∧ x.1.k = 0 ∧ A[k]? = none) from fun k x hx => by
    unfold allT at hx
    rcases Nat.lt_or_ge k m with q | q
    · rw [List.getElem?_append_left (by rw [List.length_map]; omega), List.getElem?_map] at hx
      cases hg : (scanS 0 S).1[k]? with
      | none => rw [hg] at hx; cases hx
      | some y =>
        rw [hg] at hx
        obtain rfl := Option.some.inj hx
        have hy := List.mem_of_getElem? hg
        refine .inl ⟨q, (tok_txt _ (k1 y hy)).1, tok_fits _ (k1 y hy) (by have : (txtT y.1).length ≤ 3 * S.length := hfit y hy; show (txtT y.1).length ≤ 65536; omega), ?_⟩
        rw [← hA, List.getElem?_map, hg]; rfl
    · rw [List.getElem?_append_right (by rw [List.length_map]; omega), List.length_map, hm] at hx
      have hk : k = m := by
        rcases Nat.eq_or_lt_of_le q with h | h
        · exact h.symm
        · rw [List.getElem?_eq_none (by simp; omega)] at hx; cases hx
      subst hk
      rw [Nat.sub_self] at hx
      obtain rfl := Option.some.inj hx
      exact .inr ⟨rfl, rfl, by rw [← hA]; exact List.getElem?_eq_none (by rw [List.length_map]; omega)⟩)
  have HLn := Lib.hid (show (allT S).length = m + 1 by unfold allT; simp [hm])
  have HEn := Lib.hid hE
  have H1 := zScan_any s (by omega) w hE
  rw [hA] at HG
  rw [hm] at HG hcnt
  have hmb : m ≤ 2048 := by omega
  have HBS := Lib.hid hbs
  clear hE k1 hfit hbs hm hA
  have hq : ¬ (2048 : Int) < (s.size : Int) := by omega
  have hq2 : ¬ (300 : Int) < (bs.length : Int) := by omega
  go_enter Tryd.func4, Tryd.ntmps4
  go_wp2_with fail
  refine H1.mono ?_
  rintro e w1 ⟨v, at1, rfl, B1, hP⟩
  clear H1
  rw [hS] at hP
  rcases hP with ⟨_, rfl, O1⟩ | ⟨hno, _⟩
  case inr => exact absurd hz hno
  rw [hS, hz]
  have O1 : OwnT w1 w.heap.size v (allT S) := O1
  obtain ⟨pl, capl, hv⟩ := own_form2 O1
  rw [HLn.out] at hv
  subst hv
  have HO := Lib.hid O1
  have DW := below_new w1 (.cells #[.string ⟨#[32]⟩, .string ⟨#[10]⟩, .string ⟨#[9, 13]⟩, .string ⟨#[40, 42, 42, 41]⟩, .string ⟨#[40, 42, 32, 97, 32, 40, 42, 32, 98, 32, 42, 41, 32, 10, 32, 99, 32, 42, 41]⟩, .string ⟨#[32, 40, 42, 39, 42, 41, 32]⟩] 9)
  have HC := Lib.hid (blank_cells w1 9 w1.heap.size rfl)
  have hTs : w1.heap.size < (w1.alloc (.cells #[.string ⟨#[32]⟩, .string ⟨#[10]⟩, .string ⟨#[9, 13]⟩, .string ⟨#[40, 42, 42, 41]⟩, .string ⟨#[40, 42, 32, 97, 32, 40, 42, 32, 98, 32, 42, 41, 32, 10, 32, 99, 32, 42, 41]⟩, .string ⟨#[32, 40, 42, 39, 42, 41, 32]⟩] 9)).heap.size := by simp
  have HDW := Lib.hid (bt B1 DW)
  have HDW1 := Lib.hid DW
  clear O1 hz DW
  go_wp2_with fail
  generalize w1.alloc (.cells #[.string ⟨#[32]⟩, .string ⟨#[10]⟩, .string ⟨#[9, 13]⟩, .string ⟨#[40, 42, 42, 41]⟩, .string ⟨#[40, 42, 32, 97, 32, 40, 42, 32, 98, 32, 42, 41, 32, 10, 32, 99, 32, 42, 41]⟩, .string ⟨#[32, 40, 42, 39, 42, 41, 32]⟩] 9) = W at HC HDW HDW1 hTs ⊢
  have HO2 := Lib.hid (HO.out.below HDW1.out)
  have HBS2 := Lib.hid (HBS.out.below HDW.out)
  have HEn2 := Lib.hid (HEn.out.below HDW.out)
  generalize hB : w1.heap.size = B at HC hTs ⊢
  clear HDW1 HO HBS HEn hB
  go_loopw [9, 10] (fun t i wr => ∃ k : Nat, k ≤ m + 1 ∧ i = .int .i64 k ∧ t = .string ⟨(blT (accT A (spL bs) k)).toArray⟩ ∧ Below W.heap.size W wr) (fun _ i _ => m + 1 - (intOf i).toNat)
  case atStart => exact ⟨0, by omega, rfl, rfl, Below.refl _ _⟩
  case round =>
    obtain ⟨k, hk, rfl, rfl, hb⟩ := hrel
    by_cases hlt : k < m + 1
    · obtain ⟨x, hx⟩ : ∃ x, (allT S)[k]? = some x := ⟨_, List.getElem?_eq_getElem (by have := HLn.out; omega)⟩
      have hcs := HT.out k x hx
      obtain ⟨g, cap', hvv, _, _, c0, c1, c2, c3, c4⟩ := (HO2.out.below hb).at k x hx
      obtain rfl : pl = some ⟨g, 0, none⟩ := by injection hvv
      have hbl := HL.out k
      have hsz : (⟨(blT (accT A (spL bs) k)).toArray⟩ : ByteArray).size ≤ 12634150 := by rw [size_of_lit]; omega
      rcases hcs with ⟨hkm, hk0, htx, hAk⟩ | ⟨rfl, hk0, hAk⟩
      · have t1 : ((x.1.k : Int) == 0) = false := beq_eq_false_iff_ne.2 (by omega)
        have HX := Lib.hid (acc_next A (spL bs) k x.1 hAk)
        have hcell := HC.out (spN bs k) (spN_lt bs k)
        have hlast := (hb.cell (p := ⟨B, spN bs k, none⟩) hTs).trans hcell
        have hspl : Hid (sepsL.getD (spN bs k) [32] = spL bs k) := Lib.hid rfl
        obtain ⟨x1, y1, z1⟩ := posV_two x.2.1.1 x.2.1.2
        obtain ⟨x2, y2, z2⟩ := posV_two x.2.2.1 x.2.2.2
        rw [z1] at c1
        rw [z2] at c2
        have HTx := fun w => Text_any x.1 htx x1 y1 x2 y2 w
        have htl : (⟨(txtT x.1).toArray⟩ : ByteArray).size ≤ 65542 := by rw [size_of_lit]; exact txt_len _ htx
        have hzl : (⟨(sepsL.getD (spN bs k) [32]).toArray⟩ : ByteArray).size ≤ 19 := by rw [size_of_lit]; exact (spL_in bs k).2
        have HY : Hid ((⟨(blT (accT A (spL bs) k)).toArray⟩ : ByteArray) ++ ⟨(txtT x.1).toArray⟩ ++ ⟨(sepsL.getD (spN bs k) [32]).toArray⟩ = ⟨(blT (accT A (spL bs) (k + 1))).toArray⟩) := Lib.hid (by
          rw [HX.out]; apply ByteArray.ext; simp; rfl)
        generalize (⟨(blT (accT A (spL bs) k)).toArray⟩ : ByteArray) = tb at hsz HY ⊢
        generalize (⟨(txtT x.1).toArray⟩ : ByteArray) = tx at HTx htl HY
        generalize (⟨(sepsL.getD (spN bs k) [32]).toArray⟩ : ByteArray) = tz at hlast hzl HY
        clear hvv hx htx hAk z1 z2 hcell hspl HX hbl
        by_cases hkb : k < bs.length
        · obtain ⟨a, ha, hab, hac, hb0, hb1⟩ := (HBS2.out.below hb) k hkb
          have hq6 : bs.getD k 0 % 6 = (spN bs k : Int) := by unfold spN; rw [if_pos hkb]; omega
          have hq6b := spN_lt bs k
          subst ha
          generalize spN bs k = q at *
          generalize bs.getD k 0 = b at *
          go_wp2_with fail
          refine (HTx _).mono ?_
          rintro e w4 ⟨rfl, B4⟩
          have hac := (B4.cell (p := a.add k) (by rw [add_block]; exact hab)).trans hac
          have hlast := (B4.cell (p := ⟨B, q, none⟩) (Nat.lt_of_lt_of_le hTs hb.size)).trans hlast
          have b4 := bt hb B4
          clear HTx c0 c1 c2 c3 c4 B4
          go_wp2_with fail
          go_roundw
          case rel => exact ⟨k + 1, by omega, by simp, by rw [← HY.out], b4⟩
          case measure => simp [intOf] <;> omega
        · have hq0 : spN bs k = 0 := by unfold spN; rw [if_neg hkb]
          rw [hq0] at hlast
          have hkb2 : ¬ (k : Int) < (bs.length : Int) := by omega
          go_wp2_with fail
          refine (HTx _).mono ?_
          rintro e w4 ⟨rfl, B4⟩
          have hlast := (B4.cell (p := ⟨B, 0, none⟩) (Nat.lt_of_lt_of_le hTs hb.size)).trans hlast
          have b4 := bt hb B4
          clear HTx c0 c1 c2 c3 c4 B4
          go_wp2_with fail
          go_roundw
          case rel => exact ⟨k + 1, by omega, by simp, by rw [← HY.out], b4⟩
          case measure => simp [intOf] <;> omega
      · have t1 : ((x.1.k : Int) == 0) = true := beq_iff_eq.2 (by omega)
        have HX := Lib.hid (acc_stay A (spL bs) k hAk)
        clear hvv hx hAk hbl c1 c2 c3 c4
        go_wp2_with fail
        go_roundw
        case rel => exact ⟨k + 1, by omega, by simp, by rw [HX.out], hb⟩
        case measure => simp [intOf] <;> omega
    · obtain rfl : k = m + 1 := by omega
      have HA := HG.out (m + 1) (by omega)
      have HAl := fun (L : List TK) (v : Value) (w4 : World) (B4 : Below wr.heap.size wr w4) (O4 : OwnT w4 wr.heap.size v L) => Alike_any (allT S) L (by rw [HLn.out]; omega) _ v w4 _ _ ((HO2.out.below hb).below B4) O4
      have b5 := bt HDW.out hb
      have hE5 := HEn2.out.below hb
      rcases HA with ⟨hl, HA⟩ | ⟨hl, HA⟩
      · have HA := HA wr hE5
        have HEn5 := Lib.hid hE5
        clear hE5
        generalize (⟨(blT (accT A (spL bs) (m + 1))).toArray⟩ : ByteArray) = tb at HA ⊢
        go_wp2_with fail
        refine HA.mono ?_
        rintro e w6 ⟨v6, L6, rfl, B6, O6, hal⟩
        have HAl := HAl L6 v6 w6 B6 O6
        rw [hal] at HAl
        obtain ⟨p6, cap6, hv6⟩ := own_form2 O6
        subst hv6
        clear HA O6
        go_wp2_with fail
        refine HAl.mono ?_
        rintro e w7 ⟨rfl, B7⟩
        have b7 := bt (bt b5 B6) B7
        have HW := zworks_any w7 (HEn5.out.below (bt B6 B7))
        go_wp2_with fail
        refine HW.mono ?_
        rintro e w8 ⟨rfl, B8⟩
        go_wp2_with fail
        go_ret
        exact ⟨rfl, bt b7 B8⟩
      · have HA := HA wr
        have HEn5 := Lib.hid hE5
        clear hE5
        have hsz : (16384 : Int) < ((⟨(blT (accT A (spL bs) (m + 1))).toArray⟩ : ByteArray).size : Int) := by rw [size_of_lit]; omega
        generalize (⟨(blT (accT A (spL bs) (m + 1))).toArray⟩ : ByteArray) = tb at HA hsz ⊢
        go_wp2_with fail
        refine HA.mono ?_
        rintro e w6 ⟨x, y, rfl, B6⟩
        clear HA
        have b6 := bt b5 B6
        have HW := zworks_any w6 (HEn5.out.below B6)
        go_wp2_with fail
        refine HW.mono ?_
        rintro e w8 ⟨rfl, B8⟩
        go_wp2_with fail
        go_ret
        exact ⟨rfl, bt b6 B8⟩
end Go.Proofs.YtkeomcdcjfgacaaDoor
namespace Go.Proofs.YtkeomcdcjfgacaaDoor
open Go.RowKit
theorem blanks_any (s : ByteArray) (p : Option Addr) (cap : Nat) (bs : List Int) (hn : bs.length ≤ 9223372036854775807) (w : World) (hE : Env w) (hbs : BytesIn w p bs) :
    Calls Tryd.prog 4 #[.string s, .slice p bs.length cap] w fun e w' => e = .returned (.bool true) ∧ Below w.heap.size w w' := by
  by_cases h1 : 2048 < s.size
  · exact blanks_works s p _ cap hn (.inl h1) w hE
  by_cases h2 : 300 < bs.length
  · exact blanks_works s p _ cap hn (.inr h2) w hE
  by_cases hz : (scanS 0 s.data.toList).2.2 = 0
  · exact blanks_ok s (by omega) _ rfl p bs cap (by omega) hz w hE hbs
  · exact blanks_err s (by omega) p bs.length cap (by omega) hz w hE
end Go.Proofs.YtkeomcdcjfgacaaDoor
