/- KonstOrder: all together. -/
import Derived.Test.YtpnohljhpoildaaKnVE
import Derived.Test.YtpnohljhpoildaaKnVL
import Derived.Test.YtpnohljhpoildaaKnVG
import Derived.Test.YtpnohljhpoildaaKnVB
namespace Go.Proofs.Ytpnohljhpoildaa
open Go.RowKit
set_option maxHeartbeats 1000000
set_option maxRecDepth 100000
set_option linter.unusedVariables false
set_option linter.unusedSimpArgs false

theorem order_heavy (r s : RV) (hv : hvB r s = true) (W : World) : Calls Try.prog 4 #[r.val, s.val] W fun e w' => e = .returned (.bool true) ∧ Below W.heap.size W w' := by
  have HV := heavy_any r s
  rw [hv] at HV
  clear hv
  obtain ⟨rk, rn, rx, rt⟩ := r
  obtain ⟨sk, sn, sx, st⟩ := s
  unfold RV.val at *
  have kW : Bl W ((W.alloc (.cells #[.int .u8 rk, .int .i64 rn, .string rx, .int .i64 rt] 23)).alloc (.cells #[.int .u8 sk, .int .i64 sn, .string sx, .int .i64 st] 23)) := ((Below.refl _ _).alloc (Nat.le_refl _) _).alloc (by simp) _
  go_enter Try.func4, Try.ntmps4
  go_wp2_with fail
  refine (HV _).mono ?_
  rintro e w0 ⟨rfl, k0⟩
  go_wp2_with fail
  refine (works_any _).mono ?_
  rintro e w1 ⟨rfl, k1⟩
  have KW := Lib.hid ((kW.on k0).on k1)
  clear kW k0 k1
  go_wp2_with fail
  go_ret
  exact ⟨rfl, KW.out⟩
theorem order_end (r s : RV) (hr : r.wf) (hs : s.wf) (hrx : r.x.size ≤ 9223372036854775807) (hsx : s.x.size ≤ 9223372036854775807) (W : World) : Calls Try.prog 4 #[r.val, s.val] W fun e w' => e = .returned (.bool true) ∧ Below W.heap.size W w' := by
  cases hv : hvB r s
  case true => exact order_heavy r s hv W
  obtain ⟨a, ea⟩ : ∃ a, anyP r = a := ⟨_, rfl⟩
  obtain ⟨b, eb⟩ : ∃ a, anyP s = a := ⟨_, rfl⟩
  have hk := @ord_res
  cases ho : ordP (tellP a) (tellP b)
  case true =>
    have ho2 : ordP (tellP b) (tellP a) = true := by rw [ord_sym]; exact ho
    have h1 := ord_res (o := [60]) rfl rfl a b ho
    have h2 := ord_res (o := [62]) rfl rfl a b ho
    have h3 := ord_res (o := [61]) rfl rfl a b ho
    have h4 := ord_res (o := [35]) rfl rfl a b ho
    have h5 := ord_res (o := [60, 61]) rfl rfl a b ho
    have h6 := ord_res (o := [62, 61]) rfl rfl a b ho
    have h7 := ord_res (o := [62]) rfl rfl b a ho2
    by_cases hlt : (tellP a).n < (tellP b).n
    · refine order_AL r s hr hs hrx hsx hv a b ea eb (h1.trans ?_) (h2.trans ?_) (h3.trans ?_) (h4.trans ?_) (h5.trans ?_) (h6.trans ?_) (h7.trans ?_) W <;> unfold tru <;> congr 2 <;> simp <;> omega
    · by_cases hgt : (tellP b).n < (tellP a).n
      · refine order_AG r s hr hs hrx hsx hv a b ea eb (h1.trans ?_) (h2.trans ?_) (h3.trans ?_) (h4.trans ?_) (h5.trans ?_) (h6.trans ?_) (h7.trans ?_) W <;> unfold tru <;> congr 2 <;> simp <;> omega
      · refine order_AE r s hr hs hrx hsx hv a b ea eb (h1.trans ?_) (h2.trans ?_) (h3.trans ?_) (h4.trans ?_) (h5.trans ?_) (h6.trans ?_) (h7.trans ?_) W <;> unfold tru <;> congr 2 <;> simp <;> omega
  case false =>
    have ho2 : ordP (tellP b) (tellP a) = false := by rw [ord_sym]; exact ho
    have hr1 := rows_not a b ho
    have hr2 := rows_not b a ho2
    rw [both_sym (tellP a) (tellP b) 4, both_sym (tellP a) (tellP b) 7] at hr2
    have hd := fun (o : List UInt8) (ho : opsL.contains o = true) => does_of o ho a b
    have hd2 := fun (o : List UInt8) (ho : opsL.contains o = true) => does_of o ho b a
    cases h4 : bothP (tellP a) (tellP b) 4
    case true =>
      rw [h4, if_pos rfl] at hr1 hr2
      rw [hr1] at hd
      rw [hr2] at hd2
      cases hq : ((tellP a).n == (tellP b).n)
      · exact order_Bf _ _ _ r s hr hs hrx hsx hv a b ea eb ((hd [60] rfl).trans rfl) ((hd [62] rfl).trans rfl) ((hd [61] rfl).trans (show tru ((tellP a).n == (tellP b).n) = _ by rw [hq]; rfl)) ((hd [35] rfl).trans (show tru ((tellP a).n != (tellP b).n) = _ by rw [show ((tellP a).n != (tellP b).n) = !((tellP a).n == (tellP b).n) from rfl, hq]; rfl)) ((hd [60, 61] rfl).trans rfl) ((hd [62, 61] rfl).trans rfl) ((hd2 [62] rfl).trans rfl) W
      · exact order_Bt _ _ _ r s hr hs hrx hsx hv a b ea eb ((hd [60] rfl).trans rfl) ((hd [62] rfl).trans rfl) ((hd [61] rfl).trans (show tru ((tellP a).n == (tellP b).n) = _ by rw [hq]; rfl)) ((hd [35] rfl).trans (show tru ((tellP a).n != (tellP b).n) = _ by rw [show ((tellP a).n != (tellP b).n) = !((tellP a).n == (tellP b).n) from rfl, hq]; rfl)) ((hd [60, 61] rfl).trans rfl) ((hd [62, 61] rfl).trans rfl) ((hd2 [62] rfl).trans rfl) W
    case false =>
      rw [h4, if_neg (by simp)] at hr1 hr2
      cases h7 : bothP (tellP a) (tellP b) 7
      case true =>
        rw [h7, if_pos rfl] at hr1 hr2
        rw [hr1] at hd
        rw [hr2] at hd2
        cases hq : ((tellP a).n == (tellP b).n)
        · exact order_Bf .none .none 100 r s hr hs hrx hsx hv a b ea eb ((hd [60] rfl).trans rfl) ((hd [62] rfl).trans rfl) ((hd [61] rfl).trans (show tru ((tellP a).n == (tellP b).n) = _ by rw [hq]; rfl)) ((hd [35] rfl).trans (show tru ((tellP a).n != (tellP b).n) = _ by rw [show ((tellP a).n != (tellP b).n) = !((tellP a).n == (tellP b).n) from rfl, hq]; rfl)) ((hd [60, 61] rfl).trans rfl) ((hd [62, 61] rfl).trans rfl) ((hd2 [62] rfl).trans rfl) W
        · exact order_Bt .none .none 100 r s hr hs hrx hsx hv a b ea eb ((hd [60] rfl).trans rfl) ((hd [62] rfl).trans rfl) ((hd [61] rfl).trans (show tru ((tellP a).n == (tellP b).n) = _ by rw [hq]; rfl)) ((hd [35] rfl).trans (show tru ((tellP a).n != (tellP b).n) = _ by rw [show ((tellP a).n != (tellP b).n) = !((tellP a).n == (tellP b).n) from rfl, hq]; rfl)) ((hd [60, 61] rfl).trans rfl) ((hd [62, 61] rfl).trans rfl) ((hd2 [62] rfl).trans rfl) W
      case false =>
        rw [h7, if_neg (by simp)] at hr1 hr2
        have hn : ∀ (l : List Tn) (o : List UInt8), (tab .tm).lookup o = none → firstT (if l = [] then [] else [Tn.tm]) o = none := fun l o h => by
          split
          · rfl
          · show (match (tab .tm).lookup o with | some g => some g | none => firstT [] o) = _
            rw [h]; rfl
        have hz : ∀ (x y : PV) (c : Bool), rowsP (tellP x) (tellP y) = (if c = true then [Tn.tm] else []) → ∀ o, opsL.contains o = true → (tab .tm).lookup o = none → doesP o x y = (.none, 100) := fun x y c hc o ho hl => by
          rw [does_of o ho x y, hc]
          cases c
          · rfl
          · show pickD (match (tab .tm).lookup o with | some g => some g | none => firstT [] o) _ _ = _
            rw [hl]; rfl
        have z1 := hz a b _ hr1
        have z2 := hz b a _ hr2
        exact order_C r s hr hs hrx hsx hv a b ea eb (z1 [60] rfl rfl) (z1 [62] rfl rfl) (z1 [61] rfl rfl) (z1 [35] rfl rfl) (z1 [60, 61] rfl rfl) (z1 [62, 61] rfl rfl) (z2 [62] rfl rfl) W
end Go.Proofs.Ytpnohljhpoildaa
