/- KonstIn. -/
import Derived.Test.YtpnohljhpoildabKnL
namespace Go.Proofs.Ytpnohljhpoildab
open Go.RowKit
set_option maxHeartbeats 1000000
set_option maxRecDepth 100000
set_option linter.unusedVariables false
set_option linter.unusedSimpArgs false

def BytesIn (w : World) (p : Option Addr) (l : List Int) : Prop := ∀ j, j < l.length → ∃ a, p = some a ∧ a.block < w.heap.size ∧ w.cell? (a.add j) = some (.int .u8 (l.getD j 0)) ∧ 0 ≤ l.getD j 0 ∧ l.getD j 0 ≤ 255
theorem add_block (a : Addr) (i : Nat) : (a.add i).block = a.block := by unfold Addr.add; split <;> rfl
/-- The set behind k of them. -/
def stI (l : List Int) : Nat → Int
  | 0 => 0
  | k + 1 => orN (stI l k) ((2 ^ ((l.getD k 0) % 16).toNat : Nat) : Int)
def inB (l : List Int) (n : Int) (k : Nat) : Bool := (l.take k).any fun b => b % 16 == n
theorem pow16 (q : Int) (h0 : 0 ≤ q) (h1 : q < 16) : w16 (((2 ^ q.toNat : Nat) : Int)) := by
  have h : 2 ^ q.toNat ≤ 2 ^ 15 := Nat.pow_le_pow_right (by omega) (by omega)
  generalize 2 ^ q.toNat = m at *
  exact ⟨by omega, by omega⟩
theorem stI_w (l : List Int) : ∀ k, w16 (stI l k)
  | 0 => ⟨by simp [stI], by simp [stI]⟩
  | k + 1 => or_w (stI_w l k) (pow16 _ (by omega) (by omega))
theorem stI_bit (l : List Int) (n : Nat) : ∀ k, k ≤ l.length → (stI l k).toNat.testBit n = inB l n k
  | 0, _ => by simp [stI, inB]
  | k + 1, hk => by
    have ih := stI_bit l n k (by omega)
    unfold stI orN
    rw [Int.toNat_natCast, Nat.testBit_or, ih, Int.toNat_natCast, Nat.testBit_two_pow]
    unfold inB
    rw [List.take_succ_eq_append_getElem (by omega), List.any_append]
    simp only [List.any_cons, List.any_nil, Bool.or_false]
    rw [show l.getD k 0 = l[k] by simp [List.getD, show k < l.length by omega]]
    congr 1
    by_cases h : l[k] % 16 = (n : Int)
    · rw [show (l[k] % 16 == (n : Int)) = true by rw [beq_iff_eq]; exact h]
      simp only [decide_eq_true_eq]; omega
    · rw [show (l[k] % 16 == (n : Int)) = false by rw [beq_eq_false_iff_ne]; exact h]
      simp only [decide_eq_false_iff_not]; omega
theorem inB_neg (l : List Int) (n : Int) (hn : n < 0) (k : Nat) : inB l n k = false := by
  unfold inB
  rw [List.any_eq_false]
  intro x _
  rw [beq_iff_eq]
  omega
theorem stI_in (l : List Int) (n : Int) (k : Nat) (hk : k ≤ l.length) : inN n (stI l k) = inB l n k := by
  unfold inN
  by_cases h : 0 ≤ n
  · rw [decide_eq_true h, stI_bit l n.toNat k hk, show ((n.toNat : Nat) : Int) = n by omega]; rfl
  · rw [decide_eq_false h, inB_neg l n (by omega) k]; rfl
theorem inB_next (l : List Int) (n : Int) (k : Nat) (hk : k < l.length) : inB l n (k + 1) = (inB l n k || ((l.getD k 0) % 16 == n)) := by
  unfold inB
  rw [List.take_succ_eq_append_getElem hk, List.any_append]
  simp only [List.any_cons, List.any_nil, Bool.or_false]
  rw [show l.getD k 0 = l[k] by simp [List.getD, hk]]
theorem in_end (ao : Option Addr) (cap : Nat) (l : List Int) (n : Int) (n0 : -32768 ≤ n) (n1 : n ≤ 32767) (hl : l.length ≤ maxLen) (W : World) (hin : BytesIn W ao l) : Calls Try.prog 3 #[.slice ao l.length cap, .int .i16 n] W fun e w' => e = .returned (.bool true) ∧ Below W.heap.size W w' := by
  by_cases hlong : l.length ≤ 100
  · have hln : ¬ (100 : Int) < l.length := by omega
    have HIN := Lib.hid hin
    clear hl hin
    have hwn : wrap64 n = n := IntWalk.wrap64_in n (by omega)
    have hnW : inW n = true := by unfold inW; simp; omega
    have HNW := Lib.hid hnW
    clear hnW
    obtain ⟨m, hm⟩ : ∃ m, l.length = m := ⟨_, rfl⟩
    rw [hm] at hlong hln ⊢
    have HM := Lib.hid hm
    clear hm
    go_enter Try.func3, Try.ntmps3
    go_wp2_with fail
    go_loopw [5, 6, 7] (fun s i k0 wr => ∃ k : Nat, k ≤ m ∧ k0 = .int .i64 k ∧ s = .iface 26 (.int .u16 (stI l k)) ∧ i = .bool (inB l n k) ∧ Below W.heap.size W wr)
      (fun _ _ k0 _ => m - (intOf k0).toNat)
    case atStart => exact ⟨0, Nat.zero_le _, rfl, rfl, rfl, Below.refl _ _⟩
    case round =>
      obtain ⟨k, hk, rfl, rfl, rfl, hB⟩ := hrel
      have HB := Lib.hid hB
      clear hB
      by_cases hlt : k < m
      · have HIB := Lib.hid (show BytesIn wr ao l from fun j hj => by
          obtain ⟨a, h1, h2, h3, h4⟩ := HIN.out j hj
          exact ⟨a, h1, Nat.lt_of_lt_of_le h2 HB.out.size, (HB.out.cell (by rw [add_block]; exact h2)).trans h3, h4⟩)
        obtain ⟨ad, rfl, hbk, hcell, hb0, hb1⟩ := HIB.out k (by rw [HM.out]; exact hlt)
        have HN := Lib.hid (And.intro (inB_next l n k (by rw [HM.out]; exact hlt)) (And.intro (stI_w l k) (show stI l (k + 1) = orN (stI l k) ((2 ^ ((l.getD k 0) % 16).toNat : Nat) : Int) from rfl)))
        generalize l.getD k 0 = x at *
        obtain ⟨r, hr⟩ : ∃ r, x % 16 = r := ⟨_, rfl⟩
        rw [hr] at HN
        have hr0 : 0 ≤ r ∧ r < 16 := by omega
        obtain ⟨p, hp⟩ : ∃ p, ((2 ^ r.toNat : Nat) : Int) = p := ⟨_, rfl⟩
        have wp := pow16 r hr0.1 hr0.2
        have hp2 : (2 : Int) ^ r.toNat = p := by rw [← hp]; simp
        rw [hp] at HN wp
        have hup : IntKind.u16.wrap p = p := u16_w wp
        have hri : IntKind.i16.wrap r = r := by simp [IntKind.wrap, IntKind.bits, IntKind.signed]; omega
        have wz := HN.out.2.1
        obtain ⟨z, hz⟩ : ∃ z, stI l k = z := ⟨_, rfl⟩
        rw [hz] at HN wz ⊢
        obtain ⟨o, ho⟩ : ∃ o, orN z p = o := ⟨_, rfl⟩
        rw [ho] at HN
        have DC : ∀ w, Calls Try.prog 6 #[.string ⟨#[43]⟩, .iface 26 (.int .u16 z), .iface 26 (.int .u16 p)] w fun e w' => e = .returned (.tuple #[.iface 26 (.int .u16 o), .int .i64 0]) ∧ Bl w w' := fun w => by
          refine (Does_any [43] (by decide) (.bits z) (.bits p) wz wp w).mono ?_
          rintro e w' ⟨rfl, k⟩
          exact ⟨by rw [show doesP [43] (.bits z) (.bits p) = ((.bits o), 0) from by rw [← ho]; rfl]; rfl, k⟩
        have HR0 := Lib.hid hr0
        obtain ⟨c, hc⟩ : ∃ c, inB l n k = c := ⟨_, rfl⟩
        rw [hc] at HN ⊢
        clear hp hz ho hc wp wz hr0 HIB
        cases c
        · go_wp2_with fail
          refine (DC _).mono ?_
          rintro e w2 ⟨rfl, k2⟩
          have hB2 := Lib.hid (HB.out.trans (k2.mono HB.out.size))
          have hcell := (k2.cell (show (ad.add k).block < wr.heap.size by rw [add_block]; exact hbk)).trans hcell
          clear k2
          go_wp2_with fail
          go_roundw
          case rel => exact ⟨k + 1, by omega, by simp, by rw [HN.out.2.2], by rw [HN.out.1]; rfl, hB2.out⟩
          case measure => simp [intOf]; omega
        · go_wp2_with fail
          refine (DC _).mono ?_
          rintro e w2 ⟨rfl, k2⟩
          have hB2 := Lib.hid (HB.out.trans (k2.mono HB.out.size))
          clear k2
          go_wp2_with fail
          go_roundw
          case rel => exact ⟨k + 1, by omega, by simp, by rw [HN.out.2.2], by rw [HN.out.1]; rfl, hB2.out⟩
          case measure => simp [intOf]; omega
      · obtain rfl : k = m := by omega
        have hfin := stI_in l n k (by rw [HM.out]; exact Nat.le_refl _)
        have wz := stI_w l k
        obtain ⟨z, hz⟩ : ∃ z, stI l k = z := ⟨_, rfl⟩
        rw [hz] at hfin wz ⊢
        obtain ⟨c, hc⟩ : ∃ c, inB l n k = c := ⟨_, rfl⟩
        rw [hc] at hfin ⊢
        have DI : ∀ w, Calls Try.prog 6 #[.string ⟨#[73, 78]⟩, .iface 31 (.int .i64 n), .iface 26 (.int .u16 z)] w fun e w' => e = .returned (.tuple #[.iface 33 (.bool c), .int .i64 0]) ∧ Bl w w' := fun w => by
          refine (Does_any [73, 78] (by decide) (.whole n) (.bits z) (show PV.wf (.whole n) from ⟨by omega, by omega⟩) wz w).mono ?_
          rintro e w' ⟨rfl, k⟩
          exact ⟨by rw [show doesP [73, 78] (.whole n) (.bits z) = ((.truth c), 0) from by rw [show doesP [73, 78] (.whole n) (.bits z) = tru (inN n z) from by unfold doesP; rw [show tellP (.whole n) = ⟨1, 0, nilS, n⟩ from if_pos HNW.out]; rfl, hfin]; rfl]; rfl, k⟩
        have SI : ∀ w, Calls Try.prog 7 #[.iface 33 (.bool c), .iface 33 (.bool c)] w fun e w' => e = .returned (.bool true) ∧ Bl w w' := fun w => by
          refine (same2_any (.truth c) (.truth c) trivial trivial w).mono ?_
          rintro e w' ⟨rfl, k⟩
          exact ⟨by rw [show (tellP (.truth c)).eq (tellP (.truth c)) = true from TV.eq_self _], k⟩
        have HB0 := Lib.hid HB.out
        clear hz hc hfin wz
        go_wp2_with fail
        refine (DI _).mono ?_
        rintro e u1 ⟨rfl, k1⟩
        go_wp2_with fail
        refine (SI _).mono ?_
        rintro e u2 ⟨rfl, k2⟩
        go_wp2_with fail
        refine (works_any _).mono ?_
        rintro e u3 ⟨rfl, k3⟩
        have KK := Lib.hid (HB0.out.trans (((k1.on k2).on k3).mono HB0.out.size))
        clear k1 k2 k3
        go_wp2_with fail
        go_ret
        exact ⟨rfl, KK.out⟩
  · have hln : (100 : Int) < l.length := by omega
    clear hlong hin
    go_enter Try.func3, Try.ntmps3
    go_wp2_with fail
    refine (works_any _).mono ?_
    rintro e u3 ⟨rfl, k3⟩
    have KK := Lib.hid k3
    clear k3
    go_wp2_with fail
    go_ret
    exact ⟨rfl, KK.out⟩
end Go.Proofs.Ytpnohljhpoildab
