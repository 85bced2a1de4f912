/- Package konst: what two values become. -/
import Derived.Test.YtpnohljhpoildaaKnG
namespace Go.Proofs.Ytpnohljhpoildaa
open Go.RowKit
set_option maxHeartbeats 1000000
set_option maxRecDepth 100000
set_option linter.unusedVariables false
set_option linter.unusedSimpArgs false

open Go.Maps Go.WideMaps
theorem oper_any (o : List UInt8) (w : World) : Calls Try.prog 21 #[.string ⟨o.toArray⟩] w fun e w' => e = .returned (.bool (opsL.contains o)) ∧ w' = w := by
  cases h : opsL.contains o
  · exact oper_no o h w
  · have hm := List.contains_iff_mem.1 h
    unfold opsL at hm
    simp only [List.mem_cons, List.not_mem_nil, or_false] at hm
    rcases hm with rfl | rfl | rfl | rfl | rfl | rfl | rfl | rfl | rfl | rfl | rfl | rfl | rfl | rfl | rfl
    · exact oper_0 w
    · exact oper_1 w
    · exact oper_2 w
    · exact oper_3 w
    · exact oper_4 w
    · exact oper_5 w
    · exact oper_6 w
    · exact oper_7 w
    · exact oper_8 w
    · exact oper_9 w
    · exact oper_10 w
    · exact oper_11 w
    · exact oper_12 w
    · exact oper_13 w
    · exact oper_14 w
theorem Maps.get {w : World} {bs : List Nat} {ts : List Tn} (h : Maps w bs ts) : ∀ k, k < ts.length → ∃ b t, bs[k]? = some b ∧ ts[k]? = some t ∧ MapT w b t := by
  induction h with
  | nil => intro k hk; simp at hk
  | @cons b t bs ts h1 _ ih =>
    intro k hk
    cases k with
    | zero => exact ⟨b, t, rfl, rfl, h1⟩
    | succ k => exact ih k (by simpa using hk)
theorem row_at {w : World} {B : Nat} {v : Value} {bs : List Nat} (h : w.ownsRow B 70 1 v bs.length (bs.map mv)) : ∃ ao cap, v = .slice ao bs.length cap ∧ ∀ k b, bs[k]? = some b → ∃ g, ao = some ⟨g, 0, none⟩ ∧ w.cell? ⟨g, k, none⟩ = some (.map (some b)) := by
  obtain ⟨h1, h2⟩ := h
  rcases h2 with ⟨rfl, h3⟩ | ⟨g, cap, cur, hv, hg, hh, h4, h5, h6, h7⟩
  · exact ⟨none, 0, by rw [h3], fun k b hb => by rw [List.eq_nil_of_length_eq_zero h3] at hb; cases hb⟩
  · refine ⟨some ⟨g, 0, none⟩, cap, hv, fun k b hb => ⟨g, rfl, ?_⟩⟩
    have hk : (bs.map mv)[k]? = some (mv b) := by rw [List.getElem?_map, hb]; rfl
    rw [← h7, List.getElem?_take] at hk
    split at hk
    · rw [Array.getElem?_toList] at hk
      simp [World.cell?, hh, hk, mv]
    · cases hk
theorem first_drop {ts : List Tn} {k : Nat} {t : Tn} (o : List UInt8) (h : ts[k]? = some t) : firstT (ts.drop k) o = match (tab t).lookup o with | some g => some g | none => firstT (ts.drop (k + 1)) o := by
  have hk : k < ts.length := (List.getElem?_eq_some_iff.1 h).1
  have e : ts.drop k = t :: ts.drop (k + 1) := by
    rw [List.drop_eq_getElem_cons hk]
    congr 1
    exact (List.getElem?_eq_some_iff.1 h).2
  rw [e]
  rfl
def pickD : Option Do2 → Int → Int → PV × Int
  | some g, x, y => g x y
  | none, _, _ => (.none, 100)
theorem rows_len (x y : TV) : (rowsP x y).length ≤ 3 := by
  unfold rowsP
  repeat' split
  all_goals decide
theorem tell_inW (a : PV) (h : (tellP a).s = 1) : inW (tellP a).n = true := by
  cases a with
  | whole n =>
    cases hw : inW n
    · rw [show tellP (.whole n) = ⟨0, 0, nilS, 0⟩ from if_neg (by rw [hw]; simp)] at h; cases h
    · rw [show tellP (.whole n) = ⟨1, 0, nilS, n⟩ from if_pos hw]; exact hw
  | none => cases h
  | letter n => cases h
  | truth b => cases h
  | bits n => cases h
  | str s => cases h
  | item t n => cases h
  | null => cases h
  | num n => cases h
theorem tell_w16 (a : PV) (ha : a.wf) (h : (tellP a).s = 4) : w16 (tellP a).n := by
  cases a with
  | whole n =>
    cases hw : inW n
    · rw [show tellP (.whole n) = ⟨0, 0, nilS, 0⟩ from if_neg (by rw [hw]; simp)] at h; cases h
    · rw [show tellP (.whole n) = ⟨1, 0, nilS, n⟩ from if_pos hw] at h; cases h
  | none => cases h
  | letter n => cases h
  | truth b => cases h
  | bits n => exact ha
  | str s => cases h
  | item t n => cases h
  | null => cases h
  | num n => cases h
theorem cond_of (a b : PV) (ha : a.wf) (hb : b.wf) (t : Tn) (h : t ∈ rowsP (tellP a) (tellP b)) : CondT t (tellP a).n (tellP b).n := by
  have hp : ∀ k, bothP (tellP a) (tellP b) k = true → (tellP a).s = k ∧ (tellP b).s = k := fun k hk => by
    unfold bothP at hk
    simpa using hk
  unfold rowsP at h
  rw [List.mem_append] at h
  rcases h with h | h
  · split at h
    · simp at h; subst h; trivial
    · cases h
  · split at h
    · rename_i h1
      simp at h; subst h
      obtain ⟨e1, e2⟩ := hp 1 h1
      exact ⟨tell_inW a e1, tell_inW b e2⟩
    · split at h
      · simp at h; subst h; trivial
      · split at h
        · rename_i h4
          obtain ⟨e1, e2⟩ := hp 4 h4
          simp at h
          rcases h with rfl | rfl
          · exact ⟨tell_w16 a ha e1, tell_w16 b hb e2⟩
          · trivial
        · split at h
          · simp at h; subst h; trivial
          · split at h
            · rename_i h5
              simp at h; subst h
              simp only [Bool.and_eq_true, beq_iff_eq] at h5
              exact tell_w16 b hb h5.2
            · cases h
theorem neqFn (f : Nat) (c : Array Value) (w : World) : (binOp BinOp.neq 72 (.func (.func f) #[] c) .nilFunc).run Try.prog w = .ok (.bool true) w := by kernel_rfl
theorem neqNil (w : World) : (binOp BinOp.neq 72 .nilFunc .nilFunc).run Try.prog w = .ok (.bool false) w := by kernel_rfl
theorem Does_no (o : List UInt8) (ho : opsL.contains o = false) (av bv : Value) (w : World) : Calls Try.prog 11 #[.string ⟨o.toArray⟩, av, bv] w fun e w' => e = .returned (.tuple #[.nilIface, .int .i64 103]) ∧ w' = w := by
  have HO := oper_any o w
  rw [ho] at HO
  clear ho
  go_enter Try.func11, Try.ntmps11
  go_wp2_with fail
  refine HO.mono ?_
  rintro e w1 ⟨rfl, rfl⟩
  go_wp2_with fail
  go_ret2
  exact ⟨rfl, rfl⟩
theorem Does_yes (o : List UInt8) (hol : o.length ≤ 4096) (ho : opsL.contains o = true) (a b : PV) (ha : a.wf) (hb : b.wf) (w : World) : Calls Try.prog 11 #[.string ⟨o.toArray⟩, a.val, b.val] w (Ans (doesP o a b) w) := by
  have HO := oper_any o w
  rw [ho] at HO
  have HTA := tell_any a ha
  have HTB := tell_any b hb
  have HRW := rows_any (tellP a) (tellP b)
  have HC := Lib.hid (cond_of a b ha hb)
  have HL := Lib.hid (rows_len (tellP a) (tellP b))
  have HE : Hid (doesP o a b = pickD (firstT (rowsP (tellP a) (tellP b)) o) (tellP a).n (tellP b).n) := Lib.hid (by unfold doesP; rw [if_pos ho]; cases firstT (rowsP (tellP a) (tellP b)) o <;> rfl)
  have hneq := neqFn
  have hneqn := neqNil
  obtain ⟨av, hav⟩ : ∃ v, a.val = v := ⟨_, rfl⟩
  obtain ⟨bv, hbv⟩ : ∃ v, b.val = v := ⟨_, rfl⟩
  rw [hav] at HTA ⊢
  rw [hbv] at HTB ⊢
  clear hav hbv ho ha hb
  obtain ⟨p, hp⟩ : ∃ p, doesP o a b = p := ⟨_, rfl⟩
  rw [hp] at HE ⊢
  clear hp
  obtain ⟨x, hx⟩ : ∃ x, tellP a = x := ⟨_, rfl⟩
  obtain ⟨y, hy⟩ : ∃ x, tellP b = x := ⟨_, rfl⟩
  rw [hx] at HTA HRW HC HL HE
  rw [hy] at HTB HRW HC HL HE
  clear hx hy
  obtain ⟨s, t, xs, n⟩ := x
  obtain ⟨s2, t2, xs2, n2⟩ := y
  obtain ⟨ts, hts⟩ : ∃ ts, rowsP ⟨s, t, xs, n⟩ ⟨s2, t2, xs2, n2⟩ = ts := ⟨_, rfl⟩
  rw [hts] at HC HL HE
  have HTS := Lib.hid hts
  clear hts
  unfold TV.val at *
  simp only at HC HE
  go_enter Try.func11, Try.ntmps11
  go_wp2_with fail
  refine HO.mono ?_
  rintro e w0 ⟨rfl, rfl⟩
  go_wp2_with fail
  refine (HTA _).mono ?_
  rintro e w1 ⟨rfl, k1⟩
  go_wp2_with fail
  refine (HTB _).mono ?_
  rintro e w2 ⟨rfl, k2⟩
  have k12 := k1.on k2
  clear k1 k2 HO HTA HTB
  have X := (Box.new w2 s t xs n).on ((Below.refl _ _).alloc (Nat.le_refl _) (.cells #[.int .i64 s2, .int .i64 t2, .string xs2, .int .i64 n2] 66))
  have Y := Box.new (w2.alloc (.cells #[.int .i64 s, .int .i64 t, .string xs, .int .i64 n] 66)) s2 t2 xs2 n2
  simp only [World.size_alloc] at Y
  have kb : Bl w0 ((w2.alloc (.cells #[.int .i64 s, .int .i64 t, .string xs, .int .i64 n] 66)).alloc (.cells #[.int .i64 s2, .int .i64 t2, .string xs2, .int .i64 n2] 66)) := (k12.alloc k12.size _).alloc (by simp; have := k12.size; omega) _
  clear k12
  go_wp2_with fail
  refine (HRW _).mono ?_
  rintro e w3 ⟨v, bs, rfl, k3, hrow, hmaps⟩
  have K0 := Lib.hid (kb.on k3)
  have X := X.on k3
  have Y := Y.on k3
  have x3 := X.c3
  have y3 := Y.c3
  obtain ⟨ao, cap, rfl, hat⟩ := row_at hrow
  rw [HTS.out] at hmaps
  have hlen := hmaps.len
  have hl3 := HL.out
  rw [hlen] at *
  obtain ⟨m, hm⟩ : ∃ m, ts.length = m := ⟨_, rfl⟩
  rw [hm] at hl3 ⊢
  have HM := Lib.hid (And.intro hm hmaps)
  have HAT := Lib.hid hat
  clear hm hmaps hat hrow kb k3 HRW HTS hlen HL
  go_wp2_with fail
  go_loop [24] (fun i => ∃ k : Nat, k ≤ m ∧ i = .int .i64 k ∧ firstT ts o = firstT (ts.drop k) o)
    (fun i => m - (intOf i).toNat)
  case atStart => exact ⟨0, Nat.zero_le _, rfl, rfl⟩
  case round =>
    obtain ⟨k, hk, rfl, hno⟩ := hrel
    have HN := Lib.hid hno
    clear hno
    by_cases hlt : k < m
    · obtain ⟨bb, tn, hbb, htt, hmt⟩ := HM.out.2.get k (by rw [HM.out.1]; exact hlt)
      obtain ⟨g, rfl, hcell⟩ := HAT.out k bb hbb
      have HD := Lib.hid (And.intro (first_drop o htt) (HC.out tn (List.mem_of_getElem? htt)))
      rcases hmt.look o hol with ⟨gg, vv, hgg, hrun, f, c, rfl, hE, hdo⟩ | ⟨hgg, hrun⟩
      · have HF : Hid (p = gg n n2) := Lib.hid (by
          rw [HE.out, HN.out, HD.out.1, hgg]; rfl)
        have HCL := fun w' hw => hdo w' hw n n2 HD.out.2
        have hRn := run_enters hE
        clear hbb htt hmt hgg hdo hE HD
        have HKE := Lib.hid hcell
        go_wp2_with fail
        refine (HCL _ (fun j o h _ => h)).mono ?_
        rintro e w4 ⟨rfl, k4⟩
        go_wp2_with fail
        go_ret2
        exact ⟨ans_of (p := gg n n2) (by rw [HF.out]), K0.out.on k4⟩
      · have HF : Hid (firstT ts o = firstT (ts.drop (k + 1)) o) := Lib.hid (by
          rw [HN.out, HD.out.1, hgg])
        clear hbb htt hmt hgg HD
        go_wp2_with fail
        go_round
        case rel => exact ⟨k + 1, by omega, by simp, HF.out⟩
        case measure => simp [intOf]; omega
    · have hkm : k = m := by omega
      subst hkm
      have HF : Hid (p = (.none, 100)) := Lib.hid (by
        rw [HE.out, HN.out, ← HM.out.1, List.drop_length]; rfl)
      go_wp2_with fail
      go_ret2
      exact ⟨ans_of (p := (.none, 100)) (by rw [HF.out]), K0.out⟩
theorem Does_any (o : List UInt8) (hol : o.length ≤ 4096) (a b : PV) (ha : a.wf) (hb : b.wf) (w : World) : Calls Try.prog 11 #[.string ⟨o.toArray⟩, a.val, b.val] w (Ans (doesP o a b) w) := by
  cases h : opsL.contains o
  · refine (Does_no o h a.val b.val w).mono ?_
    rintro e w' ⟨rfl, rfl⟩
    exact ⟨by rw [show doesP o a b = (.none, 103) from by unfold doesP; rw [if_neg (by rw [h]; simp)]]; rfl, Below.refl _ _⟩
  · exact Does_yes o hol h a b ha hb w
end Go.Proofs.Ytpnohljhpoildaa
