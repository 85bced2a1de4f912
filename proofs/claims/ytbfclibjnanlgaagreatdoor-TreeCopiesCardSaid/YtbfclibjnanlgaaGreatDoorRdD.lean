/- A node's beginning, read. -/
import Derived.Test.YtbfclibjnanlgaaGreatDoorRdC
import Derived.IntWalk
namespace Go.Proofs.YtbfclibjnanlgaaGreatDoor
open Go.RowKit
set_option maxHeartbeats 4000000
set_option maxRecDepth 100000
set_option linter.unusedVariables false
set_option linter.unusedSimpArgs false

theorem num_len {lo hi v : Int} {s r : List UInt8} (h : numM lo hi s = some (v, r)) : r.length ≤ s.length := by
  have := (num_some h).2.2.2.2
  rw [this, List.length_append]; omega
theorem tk_len {c : UInt8} {s r : List UInt8} (h : tkM c s = some r) : r.length ≤ s.length := by
  rw [tk_some h, List.length_append]; omega
theorem pos_len {p : Int × Int} {s r : List UInt8} (h : posM s = some (p, r)) : r.length ≤ s.length := by
  unfold posM at h
  split at h
  · rename_i q hq
    have := Option.some.inj h
    injection this with _ h2
    subst h2
    exact tk_len hq
  · split at h
    · have := Option.some.inj h
      injection this with _ h2
      subst h2
      exact (List.dropWhile_sublist noBl).length_le
    · cases h
theorem ext_t (s : List UInt8) (k : Nat) (h : k ≤ s.length) : (⟨s.toArray⟩ : ByteArray).extract 0 k = ⟨(s.take k).toArray⟩ := by
  apply ByteArray.ext
  rw [ByteArray.data_extract]
  apply Array.ext'
  rw [Array.toList_extract, List.extract_eq_take_drop]
  simp
theorem ext_d (s : List UInt8) (k : Nat) (h : k ≤ s.length) : (⟨s.toArray⟩ : ByteArray).extract k (⟨s.toArray⟩ : ByteArray).size = ⟨(s.drop k).toArray⟩ := by
  apply ByteArray.ext
  rw [ByteArray.data_extract, size_lit]
  apply Array.ext'
  rw [Array.toList_extract, List.extract_eq_take_drop]
  show (s.drop k).take (s.length - k) = s.drop k
  exact List.take_of_length_le (by rw [List.length_drop]; exact Nat.le_refl _)
def HdP (b : Nat) (s : List UInt8) (o : Option (ND × List UInt8)) (w : World) (e : Ending) (w' : World) : Prop :=
  match o with
  | none => ∃ x r, e = .returned (.tuple #[x, .bool false]) ∧ RV b r w' ∧ Fr [b] w w'
  | some (d, r) => ∃ p, e = .returned (.tuple #[ptrV p, .bool true]) ∧ RV b r w' ∧ Fr [b] w w' ∧ IsT w' (w.heap.size ≤ ·) (.node p d [])
theorem argL_nil (w : World) : ArgL w (.slice none 0 0) [] := ⟨none, 0, rfl, fun i o h => by simp at h⟩
theorem ns_leaf {w w' : World} {p : Nat} {d : ND} {v : Value} {out : List Tr} (h : NS w p d [] w' v out) : IsT w' (w.heap.size ≤ ·) (.node p d []) := by
  have h1 := h.f.len
  obtain rfl : out = [] := List.eq_nil_of_length_eq_zero (by simpa using h1)
  exact ⟨h.p, ⟨v, h.n, h.r⟩, trivial⟩
theorem hdr_any (w0 : World) (b : Nat) (s : List UInt8) (w : World) (hR : RC w0 b s w) (hl : s.length ≤ 1048576) :
    Calls Tryz.prog 27 #[.pointer (some ⟨b, 0, none⟩)] w fun e w' => HdP b s (hdM s) w e w' := by
  have HN1 := number_any b s 0 255 w hR.rv hR.env hl (by omega) (by omega)
  have HR := Lib.hid hR
  clear hR
  go_enter Tryz.func27, Tryz.ntmps27
  go_wp2_with fail
  refine HN1.mono ?_
  rintro e w1 hp
  clear HN1
  cases q1 : numM 0 255 s with
  | none =>
    rw [q1] at hp
    obtain ⟨rfl, h1, F1⟩ := hp
    have HX := Lib.hid (And.intro h1 F1)
    clear h1 F1
    have HM : Hid (hdM s = none) := Lib.hid (by simp only [hdM, q1])
    go_wp2_with fail
    go_ret2
    rw [HM.out]
    exact ⟨_, _, rfl, HX.out⟩
  | some x1 =>
  obtain ⟨k, s1⟩ := x1
  rw [q1] at hp
  obtain ⟨rfl, h1, F1⟩ := hp
  have l1 : s1.length ≤ 1048576 := Nat.le_trans (num_len q1) hl
  have hkk := num_some q1
  have hk0 : 0 ≤ k := hkk.2.1
  have hk1 : k ≤ 255 := hkk.2.2.1
  clear hkk
  have HF1 := Lib.hid (And.intro h1 F1)
  have HC := take_any b 32 s1 w1 h1
  clear h1 F1
  go_wp2_with fail
  refine HC.mono ?_
  rintro e w2 hp
  clear HC
  cases q2 : tkM 32 s1 with
  | none =>
    rw [q2] at hp
    obtain ⟨rfl, h2, F2⟩ := hp
    have HX := Lib.hid (And.intro h2 (HF1.out.2.trans F2 (fun j hj => .inl hj)))
    clear h2 F2
    have HM : Hid (hdM s = none) := Lib.hid (by simp only [hdM, q1, q2])
    go_wp2_with fail
    go_ret2
    rw [HM.out]
    exact ⟨_, _, rfl, HX.out⟩
  | some s2 =>
  rw [q2] at hp
  obtain ⟨rfl, h2, F2⟩ := hp
  have l2 : s2.length ≤ 1048576 := Nat.le_trans (tk_len q2) l1
  have HF2 := Lib.hid (And.intro h2 (HF1.out.2.trans F2 (fun j hj => .inl hj)))
  have HC := pos_any w0 b s2 w2 (HR.out.on h2 HF2.out.2) l2
  clear h2 F2
  go_wp2_with fail
  refine HC.mono ?_
  rintro e w3 hp
  clear HC
  cases q3 : posM s2 with
  | none =>
    rw [q3] at hp
    obtain ⟨x, y, rfl, h3, F3⟩ := hp
    have HX := Lib.hid (And.intro h3 (HF2.out.2.trans F3 (fun j hj => .inl hj)))
    clear h3 F3
    have HM : Hid (hdM s = none) := Lib.hid (by simp only [hdM, q1, q2, q3])
    go_wp2_with fail
    go_ret2
    rw [HM.out]
    exact ⟨_, _, rfl, HX.out⟩
  | some x3 =>
  obtain ⟨p, s3⟩ := x3
  rw [q3] at hp
  obtain ⟨rfl, h3, F3⟩ := hp
  have l3 : s3.length ≤ 1048576 := Nat.le_trans (pos_len q3) l2
  obtain ⟨px, py, hpx⟩ := posV_cx p.1 p.2
  rw [hpx]
  have HF3 := Lib.hid (And.intro h3 (HF2.out.2.trans F3 (fun j hj => .inl hj)))
  have HC := take_any b 32 s3 w3 h3
  clear h3 F3
  go_wp2_with fail
  refine HC.mono ?_
  rintro e w4 hp
  clear HC
  cases q4 : tkM 32 s3 with
  | none =>
    rw [q4] at hp
    obtain ⟨rfl, h4, F4⟩ := hp
    have HX := Lib.hid (And.intro h4 (HF3.out.2.trans F4 (fun j hj => .inl hj)))
    clear h4 F4
    have HM : Hid (hdM s = none) := Lib.hid (by simp only [hdM, q1, q2, q3, q4])
    go_wp2_with fail
    go_ret2
    rw [HM.out]
    exact ⟨_, _, rfl, HX.out⟩
  | some s4 =>
  rw [q4] at hp
  obtain ⟨rfl, h4, F4⟩ := hp
  have l4 : s4.length ≤ 1048576 := Nat.le_trans (tk_len q4) l3
  have HF4 := Lib.hid (And.intro h4 (HF3.out.2.trans F4 (fun j hj => .inl hj)))
  have HC := number_any b s4 0 9223372036854775807 w4 h4 (HR.out.on h4 HF4.out.2).env l4 (by omega) (by omega)
  clear h4 F4
  go_wp2_with fail
  refine HC.mono ?_
  rintro e w5 hp
  clear HC
  cases q5 : numM 0 9223372036854775807 s4 with
  | none =>
    rw [q5] at hp
    obtain ⟨rfl, h5, F5⟩ := hp
    have HX := Lib.hid (And.intro h5 (HF4.out.2.trans F5 (fun j hj => .inl hj)))
    clear h5 F5
    have HM : Hid (hdM s = none) := Lib.hid (by simp only [hdM, q1, q2, q3, q4, q5])
    go_wp2_with fail
    go_ret2
    rw [HM.out]
    exact ⟨_, _, rfl, HX.out⟩
  | some x5 =>
  obtain ⟨z, s5⟩ := x5
  rw [q5] at hp
  obtain ⟨rfl, h5, F5⟩ := hp
  have l5 : s5.length ≤ 1048576 := Nat.le_trans (num_len q5) l4
  have hz0 : 0 ≤ z := (num_some q5).2.1
  have HF5 := Lib.hid (And.intro h5 (HF4.out.2.trans F5 (fun j hj => .inl hj)))
  have HC := take_any b 58 s5 w5 h5
  clear h5 F5
  go_wp2_with fail
  refine HC.mono ?_
  rintro e w6 hp
  clear HC
  cases q6 : tkM 58 s5 with
  | none =>
    rw [q6] at hp
    obtain ⟨rfl, h6, F6⟩ := hp
    have HX := Lib.hid (And.intro h6 (HF5.out.2.trans F6 (fun j hj => .inl hj)))
    clear h6 F6
    have HM : Hid (hdM s = none) := Lib.hid (by simp only [hdM, q1, q2, q3, q4, q5, q6])
    go_wp2_with fail
    go_ret2
    rw [HM.out]
    exact ⟨_, _, rfl, HX.out⟩
  | some s6 =>
  rw [q6] at hp
  obtain ⟨rfl, h6, F6⟩ := hp
  have l6 : s6.length ≤ 1048576 := Nat.le_trans (tk_len q6) l5
  have HF6 := Lib.hid (And.intro h6 (HF5.out.2.trans F6 (fun j hj => .inl hj)))
  have c6 := Var.c h6
  have f6 := Var.f h6
  have hsz6 := size_lit s6
  clear h6 F6
  obtain ⟨zn, rfl⟩ : ∃ zn : Nat, z = (zn : Int) := ⟨z.toNat, by omega⟩
  by_cases hzl : s6.length < zn
  · have HM : Hid (hdM s = none) := Lib.hid (by simp only [hdM, q1, q2, q3, q4, q5, q6, nameM]; rw [if_pos (by omega)])
    clear q1 q2 q3 q4 q5 q6 hpx
    generalize (⟨s6.toArray⟩ : ByteArray) = sb at *
    have hlt : (sb.size : Int) < (zn : Int) := by omega
    go_wp2_with fail
    go_ret2
    rw [HM.out]
    exact ⟨_, _, rfl, HF6.out⟩
  · have q7 : nameM (zn : Int) s6 = some (s6.take zn, s6.drop zn) := by unfold nameM; rw [if_neg (by omega)]; simp
    have hxt := ext_t s6 zn (by omega)
    have hxd := ext_d s6 zn (by omega)
    rw [hsz6] at hxd
    have HV := Lib.hid (fun (w' : World) (h : RV b s6 w') => Var.set h (.string ⟨(s6.drop zn).toArray⟩))
    have hl7 : (s6.drop zn).length ≤ 1048576 := by rw [List.length_drop]; omega
    have hl7t : (s6.take zn).length ≤ 281474976710656 := by rw [List.length_take]; omega
    have HD := fun w' h => take_any b 32 (s6.drop zn) w' h
    have HNW := fun (n : Int) (w' : World) => New_any w' ⟨k.toNat, p.1, p.2, s6.take zn, n⟩ (.slice none 0 0) [] hl7t (argL_nil w') (by simp)
    simp only at HNW
    rw [hpx, Int.toNat_of_nonneg hk0] at HNW
    have hwk : IntKind.u8.wrap k = k := IntWalk.u8_in k ⟨hk0, hk1⟩
    have HPX := Lib.hid hpx
    have HQ := Lib.hid (And.intro q1 (And.intro q2 (And.intro q3 (And.intro q4 (And.intro q5 (And.intro q6 q7))))))
    clear q1 q2 q3 q4 q5 q6 q7 hpx
    generalize hdr : s6.drop zn = dr at *
    generalize hnm : s6.take zn = nm at *
    clear hdr
    generalize (⟨s6.toArray⟩ : ByteArray) = sb at *
    generalize hdb : (⟨dr.toArray⟩ : ByteArray) = db at *
    have HDB := Lib.hid hdb
    clear hdb
    generalize (⟨nm.toArray⟩ : ByteArray) = nb at *
    have hz1 : (zn : Int) ≤ (sb.size : Int) := by omega
    have hz2 : ¬ ((sb.size : Int) < (zn : Int)) := by omega
    have HV6 := HV.out _ HF6.out.1
    have F7 : Fr [b] w (w6.setCell ⟨b, 0, none⟩ (.string db)) := HF6.out.2.trans (Fr.set _ b 0 _) (fun j hj => .inl hj)
    have R7 : RV b dr (w6.setCell ⟨b, 0, none⟩ (.string db)) := by unfold RV; rw [HDB.out]; exact HV6
    have HC := HD _ R7
    have HF7 := Lib.hid F7
    clear HV HV6 F7 R7 HD hnm
    go_wp2_with fail
    refine HC.mono ?_
    rintro e w8 hp
    clear HC
    cases q8 : tkM 32 dr with
    | none =>
      rw [q8] at hp
      obtain ⟨rfl, h8, F8⟩ := hp
      have HX := Lib.hid (And.intro h8 (HF7.out.trans F8 (fun j hj => .inl hj)))
      have HM : Hid (hdM s = none) := Lib.hid (by
        obtain ⟨q1, q2, q3, q4, q5, q6, q7⟩ := HQ.out
        simp only [hdM, q1, q2, q3, q4, q5, q6, q7, q8])
      clear h8 F8 q8
      go_wp2_with fail
      go_ret2
      rw [HM.out]
      exact ⟨_, _, rfl, HX.out⟩
    | some s8 =>
    rw [q8] at hp
    obtain ⟨rfl, h8, F8⟩ := hp
    have l8 : s8.length ≤ 1048576 := Nat.le_trans (tk_len q8) hl7
    have HF8 := Lib.hid (And.intro h8 (HF7.out.trans F8 (fun j hj => .inl hj)))
    have HC := number_any b s8 (-9223372036854775808) 9223372036854775807 w8 h8 (HR.out.on h8 HF8.out.2).env l8 (by omega) (by omega)
    clear h8 F8
    go_wp2_with fail
    refine HC.mono ?_
    rintro e w9 hp
    clear HC
    cases q9 : numM (-9223372036854775808) 9223372036854775807 s8 with
    | none =>
      rw [q9] at hp
      obtain ⟨rfl, h9, F9⟩ := hp
      have HF9 := Lib.hid (And.intro h9 (HF8.out.2.trans F9 (fun j hj => .inl hj)))
      have HM : Hid (hdM s = none) := Lib.hid (by
        obtain ⟨q1, q2, q3, q4, q5, q6, q7⟩ := HQ.out
        simp only [hdM, q1, q2, q3, q4, q5, q6, q7, q8, q9])
      have HN9 := HNW 0 w9
      clear h9 F9 q8 q9 HNW
      go_wp2_with fail
      refine HN9.mono ?_
      rintro e w10 ⟨pp, vv, out, rfl, ns⟩
      have HNS := Lib.hid ns
      clear ns HN9
      go_wp2_with fail
      go_ret2
      rw [HM.out]
      exact ⟨_, _, rfl, HF9.out.1.keep HNS.out.b, HF9.out.2.trans (fr_bl HNS.out.b) (fun j hj => .inl hj)⟩
    | some x9 =>
    obtain ⟨n, s9⟩ := x9
    rw [q9] at hp
    obtain ⟨rfl, h9, F9⟩ := hp
    have HF9 := Lib.hid (And.intro h9 (HF8.out.2.trans F9 (fun j hj => .inl hj)))
    have HM : Hid (hdM s = some (⟨k.toNat, p.1, p.2, nm, n⟩, s9)) := Lib.hid (by
      obtain ⟨q1, q2, q3, q4, q5, q6, q7⟩ := HQ.out
      simp only [hdM, q1, q2, q3, q4, q5, q6, q7, q8, q9])
    have HN9 := HNW n w9
    clear h9 F9 q8 q9 HNW
    go_wp2_with fail
    refine HN9.mono ?_
    rintro e w10 ⟨pp, vv, out, rfl, ns⟩
    have HNS := Lib.hid ns
    clear ns HN9
    go_wp2_with fail
    go_ret2
    rw [HM.out]
    refine ⟨pp, rfl, HF9.out.1.keep HNS.out.b, HF9.out.2.trans (fr_bl HNS.out.b) (fun j hj => .inl hj), ?_⟩
    exact (ns_leaf HNS.out).keep (fun j hj _ => Nat.le_trans HF9.out.2.size hj) (fun _ _ _ => rfl)
end Go.Proofs.YtbfclibjnanlgaaGreatDoor
