/- BitsTells, walked: two lists compared; the program's answers and the document's are the same. -/
import Derived.Test.YtcecjjjehhjldaaBiE
namespace Go.Proofs.Ytcecjjjehhjldaa
open Go.RowKit
set_option maxHeartbeats 400000
set_option maxRecDepth 100000
set_option linter.unusedVariables false

theorem IntsIn.kept {w w' : World} {ao : Option Addr} {l : List Int} (h : IntsIn w ao l) (hb : Below w.heap.size w w') : IntsIn w' ao l := fun j hj => by
  obtain ⟨a, ha, hc⟩ := h j hj
  exact ⟨a, ha, (hb.cell (World.block_lt_of_cell? _ _ hc)).trans hc⟩
theorem or_bit (a b : Int) (k : Nat) : (orI a b).toNat.testBit k = (a.toNat.testBit k || b.toNat.testBit k) := by
  unfold orI; rw [Int.toNat_natCast, Nat.testBit_or]
theorem less_bit (a b : Int) (b0 : 0 ≤ b) (b1 : b ≤ 65535) (k : Nat) (hk : k < 16) : (lessI a b).toNat.testBit k = (a.toNat.testBit k && !b.toNat.testBit k) := by
  unfold lessI; rw [Int.toNat_natCast, lessN_bit _ _ (by omega) k hk]
theorem uniI_bit (l : List Int) (k : Nat) (hk : k < 16) : (uniI l).toNat.testBit k = inL l (k : Int) := by
  unfold uniI inL; rw [Int.toNat_natCast, uni_bit l k hk]
theorem with_same (s : Int) (l : List Int) (s0 : 0 ≤ s) (s1 : s ≤ 65535) : setI (inWith s l) 16 = orI s (uniI l) := by
  obtain ⟨u0, u1⟩ := uniI_bd l
  obtain ⟨o0, o1⟩ := orI_bd s (uniI l) s0 s1 u0 u1
  have h := set_of (orI s (uniI l)).toNat (by omega) (inWith s l) (fun k hk => by
    rw [or_bit, uniI_bit l k hk]; unfold inWith; rw [has_bit s k hk])
  unfold setI; rw [h]; omega
theorem less_same (s : Int) (l : List Int) (s0 : 0 ≤ s) (s1 : s ≤ 65535) : setI (inLess s l) 16 = lessI s (uniI l) := by
  obtain ⟨u0, u1⟩ := uniI_bd l
  obtain ⟨o0, o1⟩ := lessI_bd s (uniI l) s0 s1
  have h := set_of (lessI s (uniI l)).toNat (by omega) (inLess s l) (fun k hk => by
    rw [less_bit s _ u0 u1 k hk, uniI_bit l k hk]; unfold inLess; rw [has_bit s k hk])
  unfold setI; rw [h]; omega
theorem rWith_any' (s : Int) (s0 : 0 ≤ s) (s1 : s ≤ 65535) (ao : Option Addr) (cap : Nat) (l : List Int) (hl : l.length ≤ 140737488355328) (w : World) (hin : IntsIn w ao l) (hok : IntsOk l) :
    Calls Try.prog 11 #[.int .u16 s, .slice ao l.length cap] w fun e w' => e = .returned (.int .u16 (orI s (uniI l))) ∧ w = w' := by
  rw [← with_same s l s0 s1]; exact rWith_any s s0 s1 ao cap l hl w hin hok
theorem rWithout_any' (s : Int) (s0 : 0 ≤ s) (s1 : s ≤ 65535) (ao : Option Addr) (cap : Nat) (l : List Int) (hl : l.length ≤ 140737488355328) (w : World) (hin : IntsIn w ao l) (hok : IntsOk l) :
    Calls Try.prog 13 #[.int .u16 s, .slice ao l.length cap] w fun e w' => e = .returned (.int .u16 (lessI s (uniI l))) ∧ w = w' := by
  rw [← less_same s l s0 s1]; exact rWithout_any s s0 s1 ao cap l hl w hin hok
theorem Len_any' (s : Int) (s0 : 0 ≤ s) (s1 : s ≤ 65535) (w : World) :
    Calls Try.prog 14 #[.int .u16 s] w fun e w' => e = .returned (.int .i64 ((elI s 16).length : Int)) ∧ w = w' := Len_any s s0 s1 w

theorem numbers_same (ao bo : Option Addr) (ca cb : Nat) (l : List Int) (hl : l.length ≤ 140737488355328) (w : World) (ha : IntsIn w ao l) (hb : IntsIn w bo l) :
    Calls Try.prog 16 #[.slice ao l.length ca, .slice bo l.length cb] w fun e w' => e = .returned (.bool true) ∧ Below w.heap.size w w' := by
  go_enter Try.func16, Try.ntmps16
  go_wp2
  go_loopw [5] (fun i wr => ∃ k : Nat, k ≤ l.length ∧ i = .int .i64 k ∧ Below w.heap.size w wr)
    (fun i _ => l.length - (intOf i).toNat)
  case atStart => exact ⟨0, Nat.zero_le _, rfl, Below.refl _ _⟩
  case round =>
    obtain ⟨k, hk, rfl, hnx⟩ := hrel
    by_cases hlt : k < l.length
    · obtain ⟨a, rfl, hc⟩ := (ha.kept hnx) k hlt
      obtain ⟨b, rfl, hd⟩ := (hb.kept hnx) k hlt
      generalize l.getD k 0 = x at *
      go_wp2
      go_region
      all_goals (try go_wp2)
      all_goals
        go_roundw
        case rel => exact ⟨k + 1, by omega, by simp, hnx.drew⟩
        case measure => simp [intOf]; omega
    · have hkl : k = l.length := by omega
      subst hkl
      go_wp2
      go_ret
      exact ⟨rfl, hnx⟩

theorem tells_end (s t i : Int) (ao : Option Addr) (cap : Nat) (l : List Int) (s0 : 0 ≤ s) (s1 : s ≤ 65535) (t0 : 0 ≤ t) (t1 : t ≤ 65535) (i0 : -9223372036854775808 ≤ i) (i1 : i ≤ 9223372036854775807)
    (hn : l.length ≤ maxLen) (w : World) (hi : IntsIn w ao l) (ho : IntsOk l) :
    Calls Try.prog 3 #[.int .u16 s, .int .u16 t, .int .i64 i, .slice ao l.length cap] w fun e w' => e = .returned (.bool true) ∧ Below w.heap.size w w' := by
  by_cases hlen : l.length ≤ 1024
  · have hl : l.length ≤ 140737488355328 := by omega
    have A1 := Lib.hid (Has_any s i s0 s1 i0 i1 w)
    have A2 := Lib.hid (rHas_any s i s0 s1 i0 i1 w)
    have A3 := Lib.hid (With_any s s0 s1 ao cap l hl w hi ho)
    have A4 := Lib.hid (rWith_any' s s0 s1 ao cap l hl w hi ho)
    have A5 := Lib.hid (Without_any s s0 s1 ao cap l hl w hi ho)
    have A6 := Lib.hid (rWithout_any' s s0 s1 ao cap l hl w hi ho)
    obtain ⟨b, hb⟩ : ∃ b, hasI s i = b := ⟨_, rfl⟩
    rw [hb] at A1 A2
    obtain ⟨x, hx⟩ : ∃ x, orI s (uniI l) = x := ⟨_, rfl⟩
    rw [hx] at A3 A4
    obtain ⟨y, hy⟩ : ∃ y, lessI s (uniI l) = y := ⟨_, rfl⟩
    rw [hy] at A5 A6
    obtain ⟨m, hm⟩ : ∃ m, elI s 16 = m := ⟨_, rfl⟩
    have A7 := Lib.hid (Len_any' s s0 s1)
    have A8 := Lib.hid (rAll_any s s0 s1)
    have A9 := Lib.hid (All_any s s0 s1)
    have hml := elI_len s 16
    rw [hm] at A7 A8 A9 hml
    have B1 := Lib.hid (Part_any s t s0 s1 t0 t1)
    have B2 := Lib.hid (rPart_any s t s0 s1 t0 t1)
    obtain ⟨q, hq⟩ : ∃ q, partI s t = q := ⟨_, rfl⟩
    rw [hq] at B1 B2
    clear hb hx hy hm hq hi ho hn
    go_enter Try.func3, Try.ntmps3
    go_wp2_with fail
    refine A1.out.mono ?_
    rintro e w' ⟨rfl, rfl⟩
    go_wp2_with fail
    refine A2.out.mono ?_
    rintro e w' ⟨rfl, rfl⟩
    go_wp2_with fail
    refine A3.out.mono ?_
    rintro e w' ⟨rfl, rfl⟩
    go_wp2_with fail
    refine A4.out.mono ?_
    rintro e w' ⟨rfl, rfl⟩
    go_wp2_with fail
    refine A5.out.mono ?_
    rintro e w' ⟨rfl, rfl⟩
    go_wp2_with fail
    refine A6.out.mono ?_
    rintro e w' ⟨rfl, rfl⟩
    clear A1 A2 A3 A4 A5 A6
    go_wp2_with fail
    refine (A7.out _).mono ?_
    rintro e w' ⟨rfl, rfl⟩
    go_wp2_with fail
    refine (A8.out _).mono ?_
    rintro e w1 ⟨v1, rfl, hv1, hb1⟩
    obtain ⟨ao1, cap1, rfl, hin1⟩ := hv1.read
    clear hv1 hin1
    go_wp2_with fail
    refine (A9.out _).mono ?_
    rintro e w2 ⟨v2, rfl, hv2, hb2⟩
    obtain ⟨ao2, cap2, rfl, hin2⟩ := hv2.read
    clear hv2
    go_wp2_with fail
    refine (A8.out _).mono ?_
    rintro e w3 ⟨v3, rfl, hv3, hb3⟩
    obtain ⟨ao3, cap3, rfl, hin3⟩ := hv3.read
    clear hv3
    go_wp2_with fail
    refine (numbers_same ao2 ao3 cap2 cap3 m (by omega) _ (hin2.kept hb3) hin3).mono ?_
    rintro e w4 ⟨rfl, hb4⟩
    have hbb := bt (bt (bt hb1 hb2) hb3) hb4
    clear hin2 hin3 hb1 hb2 hb3 hb4
    go_wp2_with fail
    refine (B1.out _).mono ?_
    rintro e w' ⟨rfl, rfl⟩
    go_wp2_with fail
    refine (B2.out _).mono ?_
    rintro e w' ⟨rfl, rfl⟩
    go_wp2_with fail
    refine (alive_any _).mono ?_
    rintro e w5 ⟨rfl, hb5⟩
    go_wp2_with fail
    go_ret
    exact ⟨rfl, bt hbb hb5⟩
  · have h63 : l.length ≤ 9223372036854775807 := hn
    clear hi ho hn
    go_enter Try.func3, Try.ntmps3
    go_wp2_with fail
    refine (alive_any _).mono ?_
    rintro e w5 ⟨rfl, hb5⟩
    go_wp2_with fail
    go_ret
    exact ⟨rfl, hb5⟩
end Go.Proofs.Ytcecjjjehhjldaa
