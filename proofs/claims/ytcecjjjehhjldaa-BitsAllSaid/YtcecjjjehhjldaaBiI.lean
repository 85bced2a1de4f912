/- BitsAll, walked: the law itself. -/
import Derived.Test.YtcecjjjehhjldaaBiH
import Derived.Deep.DeepCutAuto
namespace Go.Proofs.Ytcecjjjehhjldaa
open Go.RowKit
set_option maxHeartbeats 2000000
set_option maxRecDepth 100000
set_option linter.unusedVariables false

/-- What the walk asks of With and Without at one number. -/
def One1 (F : FuncId) (s i a : Int) : Prop := ∀ (w : World) (ao : Option Addr) (cap : Nat), IntsIn w ao [i] → Calls Try.prog F #[.int .u16 s, .slice ao 1 cap] w fun e w' => e = .returned (.int .u16 a) ∧ w = w'

/-- The cell of a list's element, at a plain address. -/
theorem IntsIn.at {w : World} {ao : Option Addr} {l : List Int} (h : IntsIn w ao l) (h0 : 0 < l.length) : ∃ b off, ao = some ⟨b, off, none⟩ ∧ ∀ j, j < l.length → w.cell? ⟨b, off + j, none⟩ = some (.int .i64 (l.getD j 0)) := by
  obtain ⟨⟨b, off, sp⟩, rfl, hc⟩ := h 0 h0
  have hsp : sp = none := by
    have h1 := World.cell?_spot hc
    cases sp with
    | none => rfl
    | some i => simp [Addr.add] at h1
  subst hsp
  refine ⟨b, off, rfl, fun j hj => ?_⟩
  obtain ⟨a, ha, hc2⟩ := h j hj
  have : a = ⟨b, off, none⟩ := (Option.some.inj ha).symm
  subst this
  rw [← WideShapes.add_plain]; exact hc2
theorem ints_built' (w : World) (l : List Int) (n : Nat) (hn : n = w.heap.size) : IntsIn (w.alloc (.cells (l.map (Value.int .i64)).toArray 3)) (some ⟨n, 0, none⟩) l := by
  subst hn; exact ints_built w l
theorem all_walk (s t i k a b : Int) (m : List Int) (bi : Bool) (t0 : 0 ≤ t) (t1 : t ≤ 65535) (i0 : -9223372036854775808 ≤ i) (i1 : i ≤ 9223372036854775807) (k0 : -9223372036854775808 ≤ k) (k1 : k ≤ 9223372036854775807)
    (HH : Hid (AllSet s t i k a b m bi)) (HM : Hid (AllOf s m)) (W1 : Hid (One1 10 s i a)) (W2 : Hid (One1 12 s i b))
    (hc : Hid ((i < 0 ∧ bi = false) ∨ (0 ≤ i ∧ ¬ i < 16 ∧ bi = false) ∨ (0 ≤ i ∧ i < 16 ∧ bi = true))) (w : World) :
    Calls Try.prog 5 #[.int .u16 s, .int .u16 t, .int .i64 i, .int .i64 k] w fun e w' => e = .returned (.bool true) ∧ Below w.heap.size w w' := by
  have C1 := Lib.hid (fun w => Has_q a i HH.out.a0 HH.out.a1 i0 i1 bi HH.out.ai w)
  have C2 := Lib.hid (fun w => Has_q b i HH.out.b0 HH.out.b1 i0 i1 false HH.out.bn w)
  have hlen := HM.out.len
  have s0 := HH.out.s0
  have s1 := HH.out.s1
  go_enter Try.func5, Try.ntmps5
  go_wp2_with fail
  refine (W1.out _ _ _ (ints_built w [i])).mono ?_
  rintro e w' ⟨rfl, rfl⟩
  go_wp2_with fail
  refine (W2.out _ _ _ (ints_built' (w.alloc (.cells #[.int .i64 i] 3)) [i] _ (by simp))).mono ?_
  rintro e w' ⟨rfl, rfl⟩
  have hb2 : Below w.heap.size w ((w.alloc (.cells #[.int .i64 i] 3)).alloc (.cells #[.int .i64 i] 3)) := bt (below_new _ _) (below_new _ _)
  clear W1 W2
  go_upto_region 2 with fail
  go_cut [65] (fun c wx => c = .bool false ∧ Below w.heap.size w wx)
  case first =>
    go_wp2_with fail
    refine (All_any s HH.out.s0 HH.out.s1 _).mono ?_
    rintro e w3 ⟨v, rfl, hv, hb3⟩
    rw [HH.out.hm] at hv
    obtain ⟨ao, cap, rfl, hin⟩ := hv.read
    have hb4 := bt hb2 hb3
    clear hv hb2 hb3
    go_wp2_with fail
    refine (With_all s HH.out.s0 HH.out.s1 m HH.out.hm _ _ _ hin).mono ?_
    rintro e w' ⟨rfl, rfl⟩
    clear hin
    go_wp2_with fail
    refine (C1.out _).mono ?_
    rintro e w' ⟨rfl, rfl⟩
    rcases hc.out with ⟨g0, rfl⟩ | ⟨g0, g1, rfl⟩ | ⟨g0, g1, rfl⟩
    all_goals
      go_wp2_with fail
      refine (C2.out _).mono ?_
      rintro e w' ⟨rfl, rfl⟩
      by_cases hik : i = k
      · subst hik
        go_wp2_with fail
        go_meet
        first | exact ⟨rfl, hb4⟩ | exact ⟨by simp [g1], hb4⟩
      · have D1 := Lib.hid (fun w => Has_q a k HH.out.a0 HH.out.a1 k0 k1 _ (HH.out.ak hik) w)
        have D2 := Lib.hid (fun w => Has_q b k HH.out.b0 HH.out.b1 k0 k1 _ (HH.out.bk hik) w)
        have D3 := Lib.hid (fun w => Has_q s k HH.out.s0 HH.out.s1 k0 k1 _ rfl w)
        generalize hasI s k = c at *
        have hne : (i != k) = true := by rw [bne_iff_ne]; exact hik
        go_wp2_with fail
        refine (D1.out _).mono ?_
        rintro e w' ⟨rfl, rfl⟩
        go_wp2_with fail
        refine (D3.out _).mono ?_
        rintro e w' ⟨rfl, rfl⟩
        go_wp2_with fail
        refine (D2.out _).mono ?_
        rintro e w' ⟨rfl, rfl⟩
        go_wp2_with fail
        refine (D3.out _).mono ?_
        rintro e w' ⟨rfl, rfl⟩
        go_wp2_with fail
        go_meet
        first | exact ⟨rfl, hb4⟩ | exact ⟨by simp [g1], hb4⟩
  case rest =>
    obtain ⟨rfl, hbw⟩ := hcut
    clear C1 C2 hc hb2
    go_wp2_with fail
    refine (All_any s HH.out.s0 HH.out.s1 _).mono ?_
    rintro e w4 ⟨v, rfl, hv, hb5⟩
    rw [HH.out.hm] at hv
    obtain ⟨ao, cap, rfl, hin⟩ := hv.read
    have hb6 := bt hbw hb5
    clear hv hbw hb5
    go_wp2_with fail
    go_loopw [12] (fun p wr => ∃ j : Nat, j ≤ m.length ∧ p = .int .i64 j ∧ Below w4.heap.size w4 wr)
      (fun p _ => m.length - (intOf p).toNat)
    case atStart => exact ⟨0, Nat.zero_le _, rfl, Below.refl _ _⟩
    case round =>
      obtain ⟨j, hj, rfl, hnx⟩ := hrel
      have hc : j = m.length ∨ (j < m.length ∧ j = 0) ∨ (j < m.length ∧ ∃ q, j = q + 1) := by
        rcases Nat.lt_or_ge j m.length with h | h
        · rcases j with _ | q
          · exact .inr (.inl ⟨h, rfl⟩)
          · exact .inr (.inr ⟨h, q, rfl⟩)
        · exact .inl (by omega)
      rcases hc with hjm | ⟨hlt, rfl⟩ | ⟨hlt, q, rfl⟩
      · subst hjm
        have L1 := Lib.hid (fun w => Len_any' s HH.out.s0 HH.out.s1 w)
        rw [HH.out.hm] at L1
        have P1 := Lib.hid (fun w => Part_any s t HH.out.s0 HH.out.s1 t0 t1 w)
        have P2 := Lib.hid (fun w => Part_any t s t0 t1 HH.out.s0 HH.out.s1 w)
        have P3 := Lib.hid (fun w => Part_any b s HH.out.b0 HH.out.b1 HH.out.s0 HH.out.s1 w)
        have P4 := Lib.hid (fun w => Part_any s a HH.out.s0 HH.out.s1 HH.out.a0 HH.out.a1 w)
        rw [HH.out.bs] at P3
        rw [HH.out.sa] at P4
        have hcc : (partI s t = false ∧ (s == t) = false) ∨ (partI s t = true ∧ partI t s = false ∧ (s == t) = false) ∨ (partI s t = true ∧ partI t s = true ∧ (s == t) = true) := by
          cases hp1 : partI s t
          · refine .inl ⟨rfl, ?_⟩
            rw [beq_eq_false_iff_ne]
            rintro rfl
            rw [part_self' s t0 t1] at hp1
            simp at hp1
          · cases hp2 : partI t s
            · refine .inr (.inl ⟨rfl, rfl, ?_⟩)
              rw [beq_eq_false_iff_ne]
              rintro rfl
              rw [hp1] at hp2
              simp at hp2
            · exact .inr (.inr ⟨rfl, rfl, by rw [beq_iff_eq]; exact part_both s t HH.out.s0 HH.out.s1 t0 t1 hp1 hp2⟩)
        have hb7 := bt hb6 hnx
        clear hin hnx hb6
        go_wp2_with fail
        refine (L1.out _).mono ?_
        rintro e w' ⟨rfl, rfl⟩
        go_wp2_with fail
        refine (P1.out _).mono ?_
        rintro e w' ⟨rfl, rfl⟩
        rcases hcc with ⟨e1, e2⟩ | ⟨e1, e3, e2⟩ | ⟨e1, e3, e2⟩
        · rw [e1]
          go_wp2_with fail
          refine (P3.out _).mono ?_
          rintro e w' ⟨rfl, rfl⟩
          go_wp2_with fail
          refine (P4.out _).mono ?_
          rintro e w' ⟨rfl, rfl⟩
          go_wp2_with fail
          refine (alive_any _).mono ?_
          rintro e w' ⟨rfl, hb8⟩
          go_wp2_with fail
          go_ret
          exact ⟨rfl, bt hb7 hb8⟩
        all_goals
          rw [e1]
          rw [e3] at P2
          go_wp2_with fail
          refine (P2.out _).mono ?_
          rintro e w' ⟨rfl, rfl⟩
          go_wp2_with fail
          refine (P3.out _).mono ?_
          rintro e w' ⟨rfl, rfl⟩
          go_wp2_with fail
          refine (P4.out _).mono ?_
          rintro e w' ⟨rfl, rfl⟩
          go_wp2_with fail
          refine (alive_any _).mono ?_
          rintro e w' ⟨rfl, hb8⟩
          go_wp2_with fail
          go_ret
          exact ⟨rfl, bt hb7 hb8⟩
      · obtain ⟨ab, off, rfl, hall⟩ := (hin.kept hnx).at (by omega)
        have hcell := hall 0 hlt
        obtain ⟨x, hx16, hxe, hxs⟩ := HM.out.has 0 hlt
        rw [hxe, Nat.add_zero] at hcell
        clear hin hall
        go_wp2_with fail
        go_quiet (first | (go_at_call 8; refine Calls.quiet_of_same (Has_q s (x : Int) HH.out.s0 HH.out.s1 (by omega) (by omega) true hxs _)))
        go_wp2
        go_roundw
        case rel => exact ⟨1, by omega, by simp, below_drewN hnx _⟩
        case measure => simp [intOf]; omega
      · obtain ⟨ab, off, rfl, hall⟩ := (hin.kept hnx).at (by omega)
        have hcell := hall (q + 1) hlt
        have hcell2 := hall q (by omega)
        obtain ⟨x, hx16, hxe, hxs⟩ := HM.out.has (q + 1) hlt
        obtain ⟨y, hy16, hye, hys⟩ := HM.out.has q (by omega)
        have hxy := HM.out.up q hlt
        rw [hxe, hye] at hxy
        rw [hxe] at hcell
        rw [hye] at hcell2
        have hq0 : (0 : Int) < (q : Int) + 1 := by omega
        clear hin hall hxe hye
        go_wp2_with fail
        go_quiet (first | (go_at_call 8; refine Calls.quiet_of_same (Has_q s (x : Int) HH.out.s0 HH.out.s1 (by omega) (by omega) true hxs _)))
        go_wp2
        go_roundw
        case rel => exact ⟨q + 2, by omega, by simp; omega, below_drewN hnx _⟩
        case measure => simp [intOf]; omega

theorem all_end (s t i k : Int) (s0 : 0 ≤ s) (s1 : s ≤ 65535) (t0 : 0 ≤ t) (t1 : t ≤ 65535) (i0 : -9223372036854775808 ≤ i) (i1 : i ≤ 9223372036854775807) (k0 : -9223372036854775808 ≤ k) (k1 : k ≤ 9223372036854775807) (w : World) :
    Calls Try.prog 5 #[.int .u16 s, .int .u16 t, .int .i64 i, .int .i64 k] w fun e w' => e = .returned (.bool true) ∧ Below w.heap.size w w' := by
  refine all_walk s t i k _ _ _ _ t0 t1 i0 i1 k0 k1 (Lib.hid (allSet s t i k s0 s1)) (Lib.hid (allOf s))
    (Lib.hid fun w ao cap h => With_any s s0 s1 ao cap [i] (by simp) w h (ok_one1 i i0 i1)) (Lib.hid fun w ao cap h => Without_any s s0 s1 ao cap [i] (by simp) w h (ok_one1 i i0 i1)) (Lib.hid ?_) w
  have hc : i < 0 ∨ (0 ≤ i ∧ ¬ i < 16) ∨ (0 ≤ i ∧ i < 16) := by omega
  rcases hc with h | ⟨h, g⟩ | ⟨h, g⟩
  · exact .inl ⟨h, by simp [show ¬ 0 ≤ i by omega]⟩
  · exact .inr (.inl ⟨h, g, by simp [g]⟩)
  · exact .inr (.inr ⟨h, g, by simp [h, g]⟩)
end Go.Proofs.Ytcecjjjehhjldaa
