/- Package konst: what one value becomes. -/
import Derived.Test.YtpnohljhpoildaaKnH
namespace Go.Proofs.Ytpnohljhpoildaa
open Go.RowKit
set_option maxHeartbeats 1000000
set_option maxRecDepth 100000
set_option linter.unusedVariables false
set_option linter.unusedSimpArgs false

open Go.Maps Go.WideMaps
theorem zeroSg (w : World) : (zeroValue 79).run Try.prog w = .ok .nilFunc w := by kernel_rfl
theorem wpList_insert_sg {W w : World} {ops : Array Oper} {rest : List Oper} {o : Oper} {a : Act} {Q : Exit → Act → World → Prop} {l : List (List UInt8 × Value)} {n : Nat}
    (hT : Tf W w l n []) (hg : o.guard = none) (m x v : Operand) (hop : o.op = Op.insert 80 m x v)
    (hm : a.eval m = .map (some W.heap.size)) (hn : n < 100) (key : List UInt8) (hl : key.length ≤ 16) (val : Value) (hx : a.eval x = .string ⟨key.toArray⟩) (hv : a.eval v = val)
    (hK : ∀ w', Tf W w' ((key, val) :: l) (n + 1) [] → wpList Try.prog ops Q rest (a.put o.dst undef) w') :
    wpList Try.prog ops Q (o :: rest) a w := by
  refine wpList_plain hg fun K' hK' => ?_
  obtain ⟨w', hrun, r1, r2⟩ := hT.own.update lawS Try.underlying80 (by unfold maxLen; omega) (key_lit key (by omega)) (show fv val = some (.held val, []) from rfl)
  unfold Oper.wp
  simp [execOp, hop, hm, hx, hv, hrun, Result.andThen]
  exact hK' _ _ (hK w' ⟨r1, hT.f.grown r2 hT.f.size (fun k hk => by cases hk; exact Nat.le_refl _), fun p hp => by cases hp⟩)
def sgL : List (List UInt8 × Value) := [([78, 79, 84], .func (.func 51) #[] #[]), ([45], .func (.func 50) #[] #[]), ([43], .func (.func 48) #[] #[])]
theorem signs_any (w : World) : Calls Try.prog 32 #[] w fun e w' => ∃ b n, e = .returned (.map (some b)) ∧ Bl w w' ∧ w'.ownsMap Try.prog 9 fv b n (fvD sgL) := by
  have hmm := @run_makeMap Try.prog
  have t0 := Tf.new w
  go_enter Try.func32, Try.ntmps32
  go_wp2_with (refine wpList_insert_sg t0 rfl _ _ _ rfl rfl (by omega) [43] (by decide) (.func (.func 48) #[] #[]) rfl rfl ?_)
  intro w1 t1
  clear t0
  go_wp2_with (refine wpList_insert_sg t1 rfl _ _ _ rfl rfl (by omega) [45] (by decide) (.func (.func 50) #[] #[]) rfl rfl ?_)
  intro w2 t2
  clear t1
  go_wp2_with (refine wpList_insert_sg t2 rfl _ _ _ rfl rfl (by omega) [78, 79, 84] (by decide) (.func (.func 51) #[] #[]) rfl rfl ?_)
  intro w3 t3
  clear t2
  have H := Lib.hid t3
  clear t3
  go_wp2_with fail
  go_ret
  exact ⟨_, 3, rfl, H.out.f, H.out.own⟩
theorem sg_look {w : World} {b n : Nat} (h : w.ownsMap Try.prog 9 fv b n (fvD sgL)) (o : List UInt8) (ho : o.length ≤ 4096) : (Instr.lookup 80 (.map (some b)) (.string ⟨o.toArray⟩) false).run Try.prog w = .ok ((sgL.lookup o).getD .nilFunc) w := by
  obtain ⟨v, ps, hrun, hv⟩ := h.lookup lawS Try.underlying80 (zeroSg w) (zd := .held .nilFunc) (zp := []) rfl (key_lit o ho)
  rw [fvD_at] at hv
  unfold fv at hv
  simp only [Option.some.injEq, Prod.mk.injEq, DataW.held.injEq] at hv
  rw [hrun, hv.1]
theorem signed_any (x : TV) (n : Int) (w : World) : Calls Try.prog 49 #[x.val, .int .i64 n] w (Ans (if x.s = 1 then fitP n else (.none, 100)) w) := by
  obtain ⟨s, t, x, m⟩ := x
  unfold TV.val
  simp only
  obtain ⟨p, hp⟩ : ∃ p, (if s = 1 then fitP n else (PV.none, 100)) = p := ⟨_, rfl⟩
  by_cases h : s = 1
  · subst h
    have HP : Hid (fitP n = p) := Lib.hid hp
    rw [if_pos rfl]
    clear hp
    go_enter Try.func49, Try.ntmps49
    go_wp2_with fail
    refine (fit_any n _).mono ?_
    rintro e w2 ⟨rfl, rfl⟩
    go_wp2_with fail
    go_ret2
    refine ⟨rfl, ?_⟩
    repeat (first | exact Below.refl _ _ | assumption | refine Below.alloc ?_ (by simp <;> omega) _ | refine Below.setCell ?_ (by simp <;> omega) _)
  · have h1 : (s != 1) = true := by rw [bne_iff_ne]; exact h
    rw [if_neg h]
    clear hp h
    go_enter Try.func49, Try.ntmps49
    go_wp2_with fail
    go_ret2
    refine ⟨rfl, ?_⟩
    repeat (first | exact Below.refl _ _ | assumption | refine Below.alloc ?_ (by simp <;> omega) _ | refine Below.setCell ?_ (by simp <;> omega) _)
theorem c_signs_1 (x : TV) (w : World) : Calls Try.prog 48 #[x.val] w (Ans (if x.s = 1 then fitP x.n else (.none, 100)) w) := by
  have HS := signed_any x x.n
  obtain ⟨p, hp⟩ : ∃ p, (if x.s = 1 then fitP x.n else (PV.none, 100)) = p := ⟨_, rfl⟩
  rw [hp] at HS ⊢
  clear hp
  obtain ⟨s, t, x, m⟩ := x
  unfold TV.val at *
  simp only at HS
  go_enter Try.func48, Try.ntmps48
  go_wp2_with fail
  refine (HS _).mono ?_
  rintro e w2 ⟨rfl, k2⟩
  have K2 := Lib.hid k2
  clear k2
  go_wp2_with fail
  go_ret2
  refine ⟨rfl, ?_⟩
  refine Bl.on ?_ K2.out
  repeat (first | exact Below.refl _ _ | assumption | refine Below.alloc ?_ (by simp <;> omega) _ | refine Below.setCell ?_ (by simp <;> omega) _)
theorem c_signs_2 (x : TV) (hx : x.s = 1 → inW x.n = true) (w : World) : Calls Try.prog 50 #[x.val] w (Ans (if x.s = 1 then fitP (-x.n) else (.none, 100)) w) := by
  obtain ⟨z, hz⟩ : ∃ z, wrap64 (-x.n) = z := ⟨_, rfl⟩
  have HS := signed_any x z
  have he : (if x.s = 1 then fitP z else (PV.none, 100)) = (if x.s = 1 then fitP (-x.n) else (PV.none, 100)) := by
    by_cases h : x.s = 1
    · have := inW_bd (hx h)
      rw [if_pos h, if_pos h, ← hz, IntWalk.wrap64_in _ (by omega)]
    · rw [if_neg h, if_neg h]
  rw [he] at HS
  obtain ⟨p, hp⟩ : ∃ p, (if x.s = 1 then fitP (-x.n) else (PV.none, 100)) = p := ⟨_, rfl⟩
  rw [hp] at HS ⊢
  clear hp he hx
  obtain ⟨s, t, x, m⟩ := x
  unfold TV.val at *
  simp only at HS hz
  go_enter Try.func50, Try.ntmps50
  go_wp2_with fail
  refine (HS _).mono ?_
  rintro e w2 ⟨rfl, k2⟩
  have K2 := Lib.hid k2
  clear k2
  go_wp2_with fail
  go_ret2
  refine ⟨rfl, ?_⟩
  refine Bl.on ?_ K2.out
  repeat (first | exact Below.refl _ _ | assumption | refine Below.alloc ?_ (by simp <;> omega) _ | refine Below.setCell ?_ (by simp <;> omega) _)
theorem c_signs_3 (x : TV) (w : World) : Calls Try.prog 51 #[x.val] w (Ans (if x.s = 3 then tru (x.n == 0) else (.none, 100)) w) := by
  obtain ⟨s, t, x, m⟩ := x
  unfold TV.val
  simp only
  by_cases h : s = 3
  · subst h
    rw [if_pos rfl]
    go_enter Try.func51, Try.ntmps51
    go_wp2_with fail
    refine (truth_any (m == 0) _).mono ?_
    rintro e w2 ⟨rfl, rfl⟩
    go_wp2_with fail
    go_ret2
    refine ⟨rfl, ?_⟩
    repeat (first | exact Below.refl _ _ | assumption | refine Below.alloc ?_ (by simp <;> omega) _ | refine Below.setCell ?_ (by simp <;> omega) _)
  · have h1 : (s != 3) = true := by rw [bne_iff_ne]; exact h
    rw [if_neg h]
    clear h
    go_enter Try.func51, Try.ntmps51
    go_wp2_with fail
    go_ret2
    refine ⟨rfl, ?_⟩
    repeat (first | exact Below.refl _ _ | assumption | refine Below.alloc ?_ (by simp <;> omega) _ | refine Below.setCell ?_ (by simp <;> omega) _)
theorem eqSg (f : Nat) (w : World) : (binOp BinOp.eql 79 (.func (.func f) #[] #[]) .nilFunc).run Try.prog w = .ok (.bool false) w := by kernel_rfl
theorem eqSgN (w : World) : (binOp BinOp.eql 79 .nilFunc .nilFunc).run Try.prog w = .ok (.bool true) w := by kernel_rfl
theorem One_plus (a : PV) (ha : a.wf) (w : World) : Calls Try.prog 13 #[.string ⟨#[43]⟩, a.val] w (Ans (oneP [43] a) w) := by
  have HT := tell_any a ha
  have hq := eqSg
  have HC := c_signs_1 (tellP a)
  have HE : Hid (oneP [43] a = (if (tellP a).s = 1 then fitP (tellP a).n else (.none, 100))) := Lib.hid rfl
  rw [HE.out]
  obtain ⟨p, hp⟩ : ∃ p, (if (tellP a).s = 1 then fitP (tellP a).n else (.none, 100)) = p := ⟨_, rfl⟩
  rw [hp] at HC ⊢
  clear hp HE
  obtain ⟨av, hav⟩ : ∃ v, a.val = v := ⟨_, rfl⟩
  rw [hav] at HT ⊢
  obtain ⟨x, hx⟩ : ∃ x, tellP a = x := ⟨_, rfl⟩
  rw [hx] at HT HC
  clear hav hx ha
  obtain ⟨s, t, x, n⟩ := x
  unfold TV.val at *
  go_enter Try.func13, Try.ntmps13
  go_wp2_with fail
  refine (signs_any _).mono ?_
  rintro e w1 ⟨b, m, rfl, k1, hown⟩
  have hlk : (Instr.lookup 80 (.map (some b)) (.string ⟨#[43]⟩) false).run Try.prog w1 = .ok (.func (.func 48) #[] #[]) w1 := sg_look hown [43] (by decide)
  clear hown
  go_wp2_with fail
  refine (HT _).mono ?_
  rintro e w2 ⟨rfl, k2⟩
  go_wp2_with fail
  refine (HC _).mono ?_
  rintro e w3 ⟨rfl, k3⟩
  have K3 := Lib.hid ((k1.on k2).on k3)
  clear k1 k2 k3
  go_wp2_with fail
  go_ret2
  exact ⟨rfl, K3.out⟩
theorem One_minus (a : PV) (ha : a.wf) (w : World) : Calls Try.prog 13 #[.string ⟨#[45]⟩, a.val] w (Ans (oneP [45] a) w) := by
  have HT := tell_any a ha
  have hq := eqSg
  have HC := c_signs_2 (tellP a) (tell_inW a)
  have HE : Hid (oneP [45] a = (if (tellP a).s = 1 then fitP (-(tellP a).n) else (.none, 100))) := Lib.hid rfl
  rw [HE.out]
  obtain ⟨p, hp⟩ : ∃ p, (if (tellP a).s = 1 then fitP (-(tellP a).n) else (.none, 100)) = p := ⟨_, rfl⟩
  rw [hp] at HC ⊢
  clear hp HE
  obtain ⟨av, hav⟩ : ∃ v, a.val = v := ⟨_, rfl⟩
  rw [hav] at HT ⊢
  obtain ⟨x, hx⟩ : ∃ x, tellP a = x := ⟨_, rfl⟩
  rw [hx] at HT HC
  clear hav hx ha
  obtain ⟨s, t, x, n⟩ := x
  unfold TV.val at *
  go_enter Try.func13, Try.ntmps13
  go_wp2_with fail
  refine (signs_any _).mono ?_
  rintro e w1 ⟨b, m, rfl, k1, hown⟩
  have hlk : (Instr.lookup 80 (.map (some b)) (.string ⟨#[45]⟩) false).run Try.prog w1 = .ok (.func (.func 50) #[] #[]) w1 := sg_look hown [45] (by decide)
  clear hown
  go_wp2_with fail
  refine (HT _).mono ?_
  rintro e w2 ⟨rfl, k2⟩
  go_wp2_with fail
  refine (HC _).mono ?_
  rintro e w3 ⟨rfl, k3⟩
  have K3 := Lib.hid ((k1.on k2).on k3)
  clear k1 k2 k3
  go_wp2_with fail
  go_ret2
  exact ⟨rfl, K3.out⟩
theorem One_not (a : PV) (ha : a.wf) (w : World) : Calls Try.prog 13 #[.string ⟨#[78, 79, 84]⟩, a.val] w (Ans (oneP [78, 79, 84] a) w) := by
  have HT := tell_any a ha
  have hq := eqSg
  have HC := c_signs_3 (tellP a)
  have HE : Hid (oneP [78, 79, 84] a = (if (tellP a).s = 3 then tru ((tellP a).n == 0) else (.none, 100))) := Lib.hid rfl
  rw [HE.out]
  obtain ⟨p, hp⟩ : ∃ p, (if (tellP a).s = 3 then tru ((tellP a).n == 0) else (.none, 100)) = p := ⟨_, rfl⟩
  rw [hp] at HC ⊢
  clear hp HE
  obtain ⟨av, hav⟩ : ∃ v, a.val = v := ⟨_, rfl⟩
  rw [hav] at HT ⊢
  obtain ⟨x, hx⟩ : ∃ x, tellP a = x := ⟨_, rfl⟩
  rw [hx] at HT HC
  clear hav hx ha
  obtain ⟨s, t, x, n⟩ := x
  unfold TV.val at *
  go_enter Try.func13, Try.ntmps13
  go_wp2_with fail
  refine (signs_any _).mono ?_
  rintro e w1 ⟨b, m, rfl, k1, hown⟩
  have hlk : (Instr.lookup 80 (.map (some b)) (.string ⟨#[78, 79, 84]⟩) false).run Try.prog w1 = .ok (.func (.func 51) #[] #[]) w1 := sg_look hown [78, 79, 84] (by decide)
  clear hown
  go_wp2_with fail
  refine (HT _).mono ?_
  rintro e w2 ⟨rfl, k2⟩
  go_wp2_with fail
  refine (HC _).mono ?_
  rintro e w3 ⟨rfl, k3⟩
  have K3 := Lib.hid ((k1.on k2).on k3)
  clear k1 k2 k3
  go_wp2_with fail
  go_ret2
  exact ⟨rfl, K3.out⟩
theorem One_else (o : List UInt8) (hol : o.length ≤ 4096) (h1 : o ≠ [43]) (h2 : o ≠ [45]) (h3 : o ≠ [78, 79, 84]) (av : Value) (w : World) : Calls Try.prog 13 #[.string ⟨o.toArray⟩, av] w fun e w' => e = .returned (.tuple #[.nilIface, .int .i64 103]) ∧ Bl w w' := by
  have hq := eqSgN
  have HN : Hid ((sgL.lookup o).getD .nilFunc = .nilFunc) := Lib.hid (by
    unfold sgL
    simp [List.lookup, beq_eq_false_iff_ne.2 h1, beq_eq_false_iff_ne.2 h2, beq_eq_false_iff_ne.2 h3])
  clear h1 h2 h3
  go_enter Try.func13, Try.ntmps13
  go_wp2_with fail
  refine (signs_any _).mono ?_
  rintro e w1 ⟨b, m, rfl, k1, hown⟩
  have hlk := sg_look hown o hol
  rw [HN.out] at hlk
  have K1 := Lib.hid k1
  clear hown k1
  go_wp2_with fail
  go_ret2
  exact ⟨rfl, K1.out⟩
theorem One_any (o : List UInt8) (hol : o.length ≤ 4096) (a : PV) (ha : a.wf) (w : World) : Calls Try.prog 13 #[.string ⟨o.toArray⟩, a.val] w (Ans (oneP o a) w) := by
  by_cases h1 : o = [43]
  · subst h1; exact One_plus a ha w
  by_cases h2 : o = [45]
  · subst h2; exact One_minus a ha w
  by_cases h3 : o = [78, 79, 84]
  · subst h3; exact One_not a ha w
  · refine (One_else o hol h1 h2 h3 a.val w).mono ?_
    rintro e w' ⟨rfl, k⟩
    exact ⟨by rw [show oneP o a = (.none, 103) from by unfold oneP; rw [if_neg h1, if_neg h2, if_neg h3]]; rfl, k⟩
end Go.Proofs.Ytpnohljhpoildaa
