/- Package place, walked: Read. -/
import Derived.Test.YtbfclibjnanlgaaGreatDoorPpF
namespace Go.Proofs.YtbfclibjnanlgaaGreatDoor
open Go.RowKit
set_option maxHeartbeats 400000
set_option maxRecDepth 100000
set_option linter.unusedVariables false

theorem size_lit (a : List UInt8) : (⟨a.toArray⟩ : ByteArray).size = a.length := by
  show a.toArray.size = _
  simp
theorem Atoi_any (a : List UInt8) (ha : a.length ≤ 1048576) (w : World) (hE : Env w) :
    Calls Tryz.prog 72 #[.string ⟨a.toArray⟩] w fun e w' => ∃ v ev, e = .returned (.tuple #[.int .i64 v, ev]) ∧ -9223372036854775808 ≤ v ∧ v ≤ 9223372036854775807 ∧ (∀ u, Lib.atoiAll a = .ok u → v = u) ∧ Below w.heap.size w w' := by
  have hl : (⟨a.toArray⟩ : ByteArray).data.toList = a := by simp
  have hz := size_lit a
  rcases h : Lib.atoiAll a with u | _ | _
  · obtain ⟨b0, b1⟩ := Lib.atoiAll_bounds h
    refine (Tryz.strconv_Atoi_ok ⟨a.toArray⟩ (by omega) u (by rw [hl]; exact h) w).mono ?_
    rintro e w1 ⟨rfl, hw⟩
    refine ⟨u, _, rfl, b0, b1, fun v hv => (by injection hv), ?_⟩
    rcases hw with rfl | ⟨t, rfl⟩
    · exact Below.refl _ _
    · exact Lib.bytesWorld_below _ _ _
  · obtain ⟨ev, he, hk⟩ := hE.sy
    refine (Any.strconv_Atoi_syntax Tryz.laysC172 ⟨a.toArray⟩ (by omega) (by rw [hl]; exact h) ev w he hk).mono ?_
    rintro e w1 ⟨N, rfl, h1, h2, h3⟩
    exact ⟨0, _, rfl, by omega, by omega, fun v hv => (by cases hv), h3⟩
  · obtain ⟨ev, he, hk⟩ := hE.rg
    have hs := Lib.atoiSat_bounds a
    refine (Tryz.strconv_Atoi_range ⟨a.toArray⟩ (by omega) (by rw [hl]; exact h) ev w he hk).mono ?_
    rintro e w1 ⟨N, rfl, h1, h2, h3⟩
    rw [hl]
    exact ⟨_, _, rfl, hs.1, hs.2, fun v hv => (by cases hv), h3⟩
theorem cut_len (s t : List UInt8) : (Lib.cut s t).1.length ≤ s.length ∧ (Lib.cut s t).2.1.length ≤ s.length := by
  unfold Lib.cut
  split
  · simp only [List.length_take, List.length_drop]; omega
  · simp
/-- What Read says, of what it reads of both sides of the colon. -/
def rdOk (v1 v2 : Int) (s : List UInt8) : Bool := isP v1 v2 && decide (txt v1 v2 = s)
theorem rd_go (v1 v2 : Int) (s : List UInt8) (h : ∀ l c, isP l c = true → s = txt l c → v1 = l ∧ v2 = c) :
    (if rdOk v1 v2 s then posV v1 v2 else posV 0 0) = posV (readGo [] s).1 (readGo [] s).2 ∧ rdOk v1 v2 s = isP (readGo [] s).1 (readGo [] s).2 := by
  cases hr : rdOk v1 v2 s
  · have hno : isP (readGo [] s).1 (readGo [] s).2 = false := by
      cases hp : isP (readGo [] s).1 (readGo [] s).2
      · rfl
      · have e := readGo_back s [] hp
        rw [List.nil_append] at e
        obtain ⟨e1, e2⟩ := h _ _ hp e
        unfold rdOk at hr
        rw [e1, e2, hp, ← e] at hr
        simp at hr
    rcases readGo_ok s [] with g | g
    · rw [g]; exact ⟨rfl, isP_zero.symm⟩
    · rw [g] at hno; cases hno
  · unfold rdOk at hr
    simp at hr
    obtain ⟨h1, h2⟩ := hr
    rw [← h2, readGo_txt v1 v2 h1]
    exact ⟨rfl, h1.symm⟩
theorem Read_any (s : ByteArray) (hs : s.size ≤ 1048576) (w : World) (hE : Env w) :
    Calls Tryz.prog 56 #[.string s] w fun e w' => e = .returned (.tuple #[posV (readGo [] s.data.toList).1 (readGo [] s.data.toList).2, .bool (isP (readGo [] s.data.toList).1 (readGo [] s.data.toList).2)]) ∧ Below w.heap.size w w' := by
  obtain ⟨m, hm⟩ := hE.mx
  have hCut := Tryz.strings_Cut s ⟨#[58]⟩ m w (by omega) hm
  have HE := Lib.hid hE
  obtain ⟨k1, k2⟩ := cut_len s.data.toList [58]
  have hlen : s.data.toList.length = s.size := by rw [Array.length_toList]; rfl
  have hcase : Hid (∀ l c, isP l c = true → s.data.toList = txt l c → Lib.atoiAll (Lib.cut s.data.toList [58]).1 = .ok l ∧ Lib.atoiAll (Lib.cut s.data.toList [58]).2.1 = .ok c) := Lib.hid (by
    intro l c hp e
    obtain ⟨h1, h2, h3, h4⟩ := (isP_iff l c).1 hp
    rw [e, cut_txt]
    exact ⟨atoi_dec l h1 h2, atoi_dec c h3 h4⟩)
  rw [show (⟨#[58]⟩ : ByteArray).data.toList = [58] from rfl] at hCut
  generalize (Lib.cut s.data.toList [58]).1 = a at hCut hcase k1
  generalize (Lib.cut s.data.toList [58]).2.1 = b at hCut hcase k2
  generalize (Lib.cut s.data.toList [58]).2.2 = f at hCut
  rw [hlen] at k1 k2
  have HL := Lib.hid hlen
  clear hm hE hlen
  go_enter Tryz.func56, Tryz.ntmps56
  go_wp2_with fail
  refine hCut.mono ?_
  rintro e w1 ⟨rfl, n, rfl⟩
  have B1 := below_drewN w n
  have HE1 := Lib.hid (HE.out.below B1)
  clear hCut
  go_wp2_with fail
  refine (Atoi_any a (by omega) _ HE1.out).mono ?_
  rintro e w2 ⟨v1, ev1, rfl, l0, l1, hv1, B2⟩
  have HV1 := Lib.hid hv1
  have HE2 := Lib.hid (HE1.out.below B2)
  have B12 := Lib.hid (bt B1 B2)
  clear hv1 HE1 B1 B2
  go_wp2_with fail
  refine (Atoi_any b (by omega) _ HE2.out).mono ?_
  rintro e w3 ⟨v2, ev2, rfl, c0, c1, hv2, B3⟩
  have HE3 := Lib.hid (HE2.out.below B3)
  have B13 := Lib.hid (bt B12.out B3)
  have HG := Lib.hid (rd_go v1 v2 s.data.toList fun l c hp e => ⟨HV1.out l (hcase.out l c hp e).1, hv2 c (hcase.out l c hp e).2⟩)
  clear hv2 HE2 B3 B12 hcase HV1
  go_wp2_with fail
  refine (Of_any v1 v2 l0 l1 c0 c1 _).mono ?_
  rintro e w4 ⟨rfl, rfl⟩
  have qz := fun t w => eql_none (P := Tryz.prog) v1 v2 t w
  have hText := Text_any v1 v2 w4 HE3.out
  cases hp : isP v1 v2
  · have HR : Hid (posV (readGo [] s.data.toList).1 (readGo [] s.data.toList).2 = .complex .f64 0 0 ∧ isP (readGo [] s.data.toList).1 (readGo [] s.data.toList).2 = false) := Lib.hid (by
      rw [← HG.out.1, ← HG.out.2]
      unfold rdOk
      rw [hp]
      exact ⟨posV_none 0 0 isP_zero, rfl⟩)
    rw [hp] at qz
    obtain ⟨x, y, e1⟩ := posV_cx v1 v2
    rw [e1] at qz ⊢
    clear e1 HG hText hp
    go_wp2_with fail
    go_ret2
    exact ⟨by rw [HR.out.1, HR.out.2]; rfl, B13.out⟩
  · rw [show txtOf v1 v2 = txt v1 v2 by unfold txtOf; rw [hp]; rfl] at hText
    rw [hp] at qz
    by_cases he : txt v1 v2 = s.data.toList
    · have HR : Hid (posV (readGo [] s.data.toList).1 (readGo [] s.data.toList).2 = posV v1 v2 ∧ isP (readGo [] s.data.toList).1 (readGo [] s.data.toList).2 = true) := Lib.hid (by
        rw [← HG.out.1, ← HG.out.2]
        unfold rdOk
        rw [hp, decide_eq_true he]
        exact ⟨rfl, rfl⟩)
      have hes : (⟨(txt v1 v2).toArray⟩ : ByteArray) = s := by
        apply ByteArray.ext
        rw [he]
      obtain ⟨x, y, e1⟩ := posV_cx v1 v2
      rw [e1] at qz hText HR ⊢
      rw [hes] at hText
      clear e1 HG hp he hes
      go_wp2_with fail
      refine hText.mono ?_
      rintro e w5 ⟨rfl, B4⟩
      go_wp2_with fail
      go_ret2
      exact ⟨by rw [HR.out.1, HR.out.2]; rfl, bt B13.out B4⟩
    · have HR : Hid (posV (readGo [] s.data.toList).1 (readGo [] s.data.toList).2 = .complex .f64 0 0 ∧ isP (readGo [] s.data.toList).1 (readGo [] s.data.toList).2 = false) := Lib.hid (by
        rw [← HG.out.1, ← HG.out.2]
        unfold rdOk
        rw [hp, decide_eq_false he]
        exact ⟨posV_none 0 0 isP_zero, rfl⟩)
      have hes : (⟨(txt v1 v2).toArray⟩ : ByteArray) ≠ s := fun e => he (by rw [← e])
      have hb : ((⟨(txt v1 v2).toArray⟩ : ByteArray).toList == s.toList) = false := beq_eq_false_iff_ne.2 (fun e => by
        rw [ByteArray.toList_mk, ByteArray.toList_eq] at e; exact he e)
      generalize (⟨(txt v1 v2).toArray⟩ : ByteArray) = T at hText hes hb
      obtain ⟨x, y, e1⟩ := posV_cx v1 v2
      rw [e1] at qz hText ⊢
      clear e1 HG hp he
      go_wp2_with fail
      refine hText.mono ?_
      rintro e w5 ⟨rfl, B4⟩
      go_wp2_with fail
      go_ret2
      exact ⟨by rw [HR.out.1, HR.out.2]; rfl, bt B13.out B4⟩
end Go.Proofs.YtbfclibjnanlgaaGreatDoor
