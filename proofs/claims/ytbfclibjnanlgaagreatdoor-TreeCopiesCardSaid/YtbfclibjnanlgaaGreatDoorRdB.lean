/- (*rest).number, walked. -/
import Derived.Test.YtbfclibjnanlgaaGreatDoorRdA
namespace Go.Proofs.YtbfclibjnanlgaaGreatDoor
open Go.RowKit
set_option maxHeartbeats 2000000
set_option maxRecDepth 100000
set_option linter.unusedVariables false
set_option linter.unusedSimpArgs false

theorem parse_any (p : List UInt8) (w w1 : World) (hE : Env w) (hB : Below w.heap.size w w1) (hl : p.length ≤ 1048576) :
    Calls Tryz.prog 54 #[.string ⟨p.toArray⟩, .int .i64 10, .int .i64 64] w1 fun e w2 => (∃ z ev, e = .returned (.tuple #[.int .i64 z, ev]) ∧ ((∃ v, Lib.parseIntB 64 p = .ok v ∧ z = v ∧ ev = .nilIface) ∨ ((∀ v, Lib.parseIntB 64 p ≠ .ok v) ∧ ∃ ty N, ev = .iface ty (.pointer (some ⟨N, 0, none⟩))))) ∧ Below w.heap.size w w2 := by
  have hE1 := hE.below hB
  have hz := size_lit p
  rcases h : Lib.parseIntB 64 p with v | _ | _
  · refine (Tryz.strconv_ParseInt_10_at64_ok ⟨p.toArray⟩ (by omega) v (by rw [data_lit]; exact h) w1).mono ?_
    rintro e w2 ⟨rfl, hw⟩
    refine ⟨⟨v, _, rfl, .inl ⟨v, rfl, rfl, rfl⟩⟩, hB.trans ?_⟩
    rcases hw with rfl | ⟨t, rfl⟩
    · exact (Below.refl _ _).mono hB.size
    · exact (Lib.bytesWorld_below _ _ _).mono hB.size
  · obtain ⟨ev, he, hk⟩ := hE1.sy
    refine (Any.strconv_ParseInt_10_at64_syntax Tryz.laysC174 ⟨p.toArray⟩ (by omega) (by rw [data_lit]; exact h) ev w1 he hk).mono ?_
    rintro e w2 ⟨N, rfl, h1, h2, h3⟩
    exact ⟨⟨0, _, rfl, .inr ⟨fun v hv => (by cases hv), _, N, rfl⟩⟩, hB.trans (h3.mono hB.size)⟩
  · obtain ⟨ev, he, hk⟩ := hE1.rg
    refine (Any.strconv_ParseInt_10_at64_range Tryz.laysC174 ⟨p.toArray⟩ (by omega) (by rw [data_lit]; exact h) ev w1 he hk).mono ?_
    rintro e w2 ⟨N, rfl, h1, h2, h3⟩
    exact ⟨⟨_, _, rfl, .inr ⟨fun v hv => (by cases hv), _, N, rfl⟩⟩, hB.trans (h3.mono hB.size)⟩
theorem format_bl (v : Int) (w w1 : World) (h0 : -9223372036854775808 ≤ v) (h1 : v ≤ 9223372036854775807) (hE : Env w) (hB : Below w.heap.size w w1) :
    Calls Tryz.prog 50 #[.int .i64 v, .int .i64 10] w1 fun e w2 => e = .returned (.string ⟨(Lib.itoa v).toArray⟩) ∧ Below w.heap.size w w2 := by
  refine (Tryz.strconv_FormatInt_10 v h0 h1 w1 (hE.below hB).tab).mono ?_
  rintro e w' ⟨rfl, k, os, rfl⟩
  exact ⟨rfl, hB.trans ((Lib.below_grow w1.heap.size w1 (Nat.le_refl _) k os).mono hB.size)⟩
theorem ext_take (s : List UInt8) : (⟨s.toArray⟩ : ByteArray).extract 0 ((⟨s.toArray⟩ : ByteArray).size - (⟨(s.dropWhile numCh).toArray⟩ : ByteArray).size) = ⟨(s.takeWhile numCh).toArray⟩ := by
  have h := List.takeWhile_append_dropWhile (p := numCh) (l := s)
  have h1 : (s.takeWhile numCh).length + (s.dropWhile numCh).length = s.length := by rw [← List.length_append, h]
  rw [size_lit, size_lit]
  apply ByteArray.ext
  rw [ByteArray.data_extract]
  apply Array.ext'
  rw [Array.toList_extract, List.extract_eq_take_drop]
  show (s.drop 0).take (s.length - (s.dropWhile numCh).length - 0) = s.takeWhile numCh
  rw [List.drop_zero, Nat.sub_zero, show s.length - (s.dropWhile numCh).length = (s.takeWhile numCh).length by omega]
  conv => lhs; arg 2; rw [← h]
  exact List.take_left
theorem num_none {lo hi : Int} {s : List UInt8} (h : numM lo hi s = none) (v : Int) (hv : Lib.parseIntB 64 (s.takeWhile numCh) = .ok v) : v < lo ∨ hi < v ∨ Lib.itoa v ≠ s.takeWhile numCh := by
  unfold numM at h
  rw [hv] at h
  simp only at h
  split at h
  · cases h
  · rename_i hn
    by_cases h1 : lo ≤ v
    · by_cases h2 : v ≤ hi
      · exact .inr (.inr (fun e => hn ⟨h1, h2, e⟩))
      · exact .inr (.inl (by omega))
    · exact .inl (by omega)
theorem num_some {lo hi : Int} {s r : List UInt8} {v : Int} (h : numM lo hi s = some (v, r)) : Lib.parseIntB 64 (s.takeWhile numCh) = .ok v ∧ lo ≤ v ∧ v ≤ hi ∧ Lib.itoa v = s.takeWhile numCh ∧ s = s.takeWhile numCh ++ r := by
  unfold numM at h
  split at h
  · rename_i u hu
    split at h
    · rename_i hc
      have h2 := Option.some.inj h
      injection h2 with h3 h4
      subst h3
      exact ⟨hu, hc.1, hc.2.1, hc.2.2, by rw [← h4]; exact (List.takeWhile_append_dropWhile (p := numCh) (l := s)).symm⟩
    · cases h
  · cases h
theorem neq_bytes (v : Int) (p : List UInt8) : ((⟨(Lib.itoa v).toArray⟩ : ByteArray).toList == (⟨p.toArray⟩ : ByteArray).toList) = decide (Lib.itoa v = p) := by
  rw [ByteArray.toList_eq, ByteArray.toList_eq, Bool.eq_iff_iff]
  simp
theorem number_none (b : Nat) (s : List UInt8) (lo hi : Int) (w : World) (hR : RV b s w) (hE : Env w) (hl : s.length ≤ 1048576) (l0 : -9223372036854775808 ≤ lo) (l1 : hi ≤ 9223372036854775807) (hres : numM lo hi s = none) :
    Calls Tryz.prog 45 #[.pointer (some ⟨b, 0, none⟩), .int .i64 lo, .int .i64 hi] w fun e w' => e = .returned (.tuple #[.int .i64 0, .bool false]) ∧ Below w.heap.size w w' := by
  have hs1 := size_lit s
  have hd1 := size_lit (s.dropWhile numCh)
  have hdl : (s.dropWhile numCh).length ≤ s.length := (List.dropWhile_sublist numCh).length_le
  have htl : (s.takeWhile numCh).length ≤ 1048576 := Nat.le_trans (List.takeWhile_sublist numCh).length_le hl
  have hext := ext_take s
  have hB0 : Below w.heap.size w w := Below.refl _ _
  have c0 := Var.c hR
  have HT : ∀ w1 : World, (w1.cell? ⟨b, 0, none⟩ = some (.string ⟨s.toArray⟩) ∧ Below w.heap.size w w1) → Calls Tryz.prog 53 #[.string ⟨s.toArray⟩, .string ⟨#[45, 48, 49, 50, 51, 52, 53, 54, 55, 56, 57]⟩] w1 fun e w2 => e = .returned (.string ⟨(s.dropWhile numCh).toArray⟩) ∧ (w2.cell? ⟨b, 0, none⟩ = some (.string ⟨s.toArray⟩) ∧ Below w.heap.size w w2) := fun w1 h1 => by
    refine (trim_num s w1).mono ?_
    rintro e w2 ⟨rfl, B⟩
    exact ⟨rfl, (B.cell (Lib.lt_of_cell h1.1)).trans h1.1, h1.2.trans (B.mono h1.2.size)⟩
  have HPI := fun w1 h1 => parse_any (s.takeWhile numCh) w w1 hE h1 htl
  have HRS := Lib.hid (And.intro hR hE)
  rw [← hs1] at hl
  rw [← hs1, ← hd1] at hdl
  obtain ⟨k, hk⟩ : ∃ k, (⟨s.toArray⟩ : ByteArray).size - (⟨(s.dropWhile numCh).toArray⟩ : ByteArray).size = k := ⟨_, rfl⟩
  rw [hk] at hext
  have hk2 : (((⟨s.toArray⟩ : ByteArray).size : Int) - ((⟨(s.dropWhile numCh).toArray⟩ : ByteArray).size : Int)) = (k : Int) := by omega
  have hkl : k ≤ (⟨s.toArray⟩ : ByteArray).size := by omega
  have HRES := Lib.hid hres
  clear hs1 hd1 htl hk hR hE hres
  generalize (⟨s.toArray⟩ : ByteArray) = sb at *
  generalize (⟨(s.dropWhile numCh).toArray⟩ : ByteArray) = tb at *
  generalize hpb : (⟨(s.takeWhile numCh).toArray⟩ : ByteArray) = pb at *
  have hw : IntKind.i64.wrap ((sb.size : Int) - (tb.size : Int)) = (k : Int) := by rw [hk2]; exact wrap_i64 _ (by omega) (by omega)
  have hk0 : (0 : Int) ≤ (k : Int) := by omega
  have hk1 : (k : Int) ≤ (sb.size : Int) := by omega
  have HB := Lib.hid hpb
  clear hk2 hpb hkl hdl
  go_enter Tryz.func45, Tryz.ntmps45
  go_wp2_with fail
  go_region_held3 (fun w' => w'.cell? ⟨b, 0, none⟩ = some (.string sb) ∧ Below w.heap.size w w') (first | assumption | (exact ⟨c0, hB0⟩) | (exact ⟨c0, hB0.drew⟩) | (exact ⟨hS.1, hS.2⟩) | (exact ⟨hS.1, hS.2.drew⟩))
    (first | (go_at_call 53; refine (HT _ (by assumption)).mono ?_; rintro e w2 ⟨rfl, hS⟩))
  clear hw hk0 hk1 HT hext
  have HPI2 := HPI _ hS.2
  clear HPI
  go_wp2_with fail
  refine HPI2.mono ?_
  rintro e w3 ⟨⟨z, ev, rfl, hz⟩, B3⟩
  have HB3 := Lib.hid B3
  clear HPI2 B3
  rcases hz with ⟨v, hv, rfl, rfl⟩ | ⟨_, ty, N, rfl⟩
  · have hc := num_none HRES.out z hv
    clear hv
    by_cases h1 : z < lo
    · clear hc
      go_wp2_with fail
      go_ret2
      exact ⟨rfl, HB3.out⟩
    · by_cases h2 : hi < z
      · clear hc
        go_wp2_with fail
        go_ret2
        exact ⟨rfl, HB3.out⟩
      · have h3 : Lib.itoa z ≠ s.takeWhile numCh := by
          rcases hc with h | h | h
          · exact absurd h h1
          · exact absurd h h2
          · exact h
        have hq := neq_bytes z (s.takeWhile numCh)
        rw [decide_eq_false h3, HB.out] at hq
        have HF := format_bl z w w3 (by omega) (by omega) HRS.out.2 HB3.out
        clear hc h3
        generalize (⟨(Lib.itoa z).toArray⟩ : ByteArray) = fb at *
        go_wp2_with fail
        refine HF.mono ?_
        rintro e w4 ⟨rfl, B4⟩
        have HB4 := Lib.hid B4
        clear HF B4
        go_wp2_with fail
        go_ret2
        exact ⟨rfl, HB4.out⟩
  · go_wp2_with fail
    go_ret2
    exact ⟨rfl, HB3.out⟩
theorem number_some (b : Nat) (s : List UInt8) (lo hi : Int) (v0 : Int) (r : List UInt8) (w : World) (hR : RV b s w) (hE : Env w) (hl : s.length ≤ 1048576) (l0 : -9223372036854775808 ≤ lo) (l1 : hi ≤ 9223372036854775807) (hres : numM lo hi s = some (v0, r)) :
    Calls Tryz.prog 45 #[.pointer (some ⟨b, 0, none⟩), .int .i64 lo, .int .i64 hi] w fun e w' => e = .returned (.tuple #[.int .i64 v0, .bool true]) ∧ RV b r w' ∧ Fr [b] w w' := by
  have hs1 := size_lit s
  have hd1 := size_lit (s.dropWhile numCh)
  have hdl : (s.dropWhile numCh).length ≤ s.length := (List.dropWhile_sublist numCh).length_le
  have htl : (s.takeWhile numCh).length ≤ 1048576 := Nat.le_trans (List.takeWhile_sublist numCh).length_le hl
  have hext := ext_take s
  have hB0 : Below w.heap.size w w := Below.refl _ _
  have c0 := Var.c hR
  have HT : ∀ w1 : World, (w1.cell? ⟨b, 0, none⟩ = some (.string ⟨s.toArray⟩) ∧ Below w.heap.size w w1) → Calls Tryz.prog 53 #[.string ⟨s.toArray⟩, .string ⟨#[45, 48, 49, 50, 51, 52, 53, 54, 55, 56, 57]⟩] w1 fun e w2 => e = .returned (.string ⟨(s.dropWhile numCh).toArray⟩) ∧ (w2.cell? ⟨b, 0, none⟩ = some (.string ⟨s.toArray⟩) ∧ Below w.heap.size w w2) := fun w1 h1 => by
    refine (trim_num s w1).mono ?_
    rintro e w2 ⟨rfl, B⟩
    exact ⟨rfl, (B.cell (Lib.lt_of_cell h1.1)).trans h1.1, h1.2.trans (B.mono h1.2.size)⟩
  have HPI := fun w1 h1 => parse_any (s.takeWhile numCh) w w1 hE h1 htl
  have HRS := Lib.hid (And.intro hR hE)
  rw [← hs1] at hl
  rw [← hs1, ← hd1] at hdl
  obtain ⟨k, hk⟩ : ∃ k, (⟨s.toArray⟩ : ByteArray).size - (⟨(s.dropWhile numCh).toArray⟩ : ByteArray).size = k := ⟨_, rfl⟩
  rw [hk] at hext
  have hk2 : (((⟨s.toArray⟩ : ByteArray).size : Int) - ((⟨(s.dropWhile numCh).toArray⟩ : ByteArray).size : Int)) = (k : Int) := by omega
  have hkl : k ≤ (⟨s.toArray⟩ : ByteArray).size := by omega
  have HRES := Lib.hid hres
  clear hs1 hd1 htl hk hR hE hres
  generalize (⟨s.toArray⟩ : ByteArray) = sb at *
  generalize (⟨(s.dropWhile numCh).toArray⟩ : ByteArray) = tb at *
  generalize hpb : (⟨(s.takeWhile numCh).toArray⟩ : ByteArray) = pb at *
  have hw : IntKind.i64.wrap ((sb.size : Int) - (tb.size : Int)) = (k : Int) := by rw [hk2]; exact wrap_i64 _ (by omega) (by omega)
  have hk0 : (0 : Int) ≤ (k : Int) := by omega
  have hk1 : (k : Int) ≤ (sb.size : Int) := by omega
  have HB := Lib.hid hpb
  clear hk2 hpb hkl hdl
  go_enter Tryz.func45, Tryz.ntmps45
  go_wp2_with fail
  go_region_held3 (fun w' => w'.cell? ⟨b, 0, none⟩ = some (.string sb) ∧ Below w.heap.size w w') (first | assumption | (exact ⟨c0, hB0⟩) | (exact ⟨c0, hB0.drew⟩) | (exact ⟨hS.1, hS.2⟩) | (exact ⟨hS.1, hS.2.drew⟩))
    (first | (go_at_call 53; refine (HT _ (by assumption)).mono ?_; rintro e w2 ⟨rfl, hS⟩))
  clear hw hk0 hk1 HT hext
  have HPI2 := HPI _ hS.2
  clear HPI
  go_wp2_with fail
  refine HPI2.mono ?_
  rintro e w3 ⟨⟨z, ev, rfl, hz⟩, B3⟩
  obtain ⟨q1, q2, q3, q4, q5⟩ := num_some HRES.out
  have HB3 := Lib.hid B3
  have hRw := HRS.out.1.keep B3
  clear HPI2 B3
  rcases hz with ⟨v, hv, rfl, rfl⟩ | ⟨hno, _⟩
  · obtain rfl : v0 = z := by rw [q1] at hv; injection hv
    have hq := neq_bytes v0 (s.takeWhile numCh)
    rw [decide_eq_true q4, HB.out] at hq
    have HF := format_bl v0 w w3 (by omega) (by omega) HRS.out.2 HB3.out
    have HK := fun (w4 : World) (h : RV b s w4) => take_hit b (s.takeWhile numCh) r w4 (by rw [← q5]; exact h)
    rw [HB.out] at HK
    have h1 : ¬ (v0 < lo) := by omega
    have h2 : ¬ (hi < v0) := by omega
    have HQ5 := Lib.hid q5
    clear hv q1 q4 q5 hRw
    generalize (⟨(Lib.itoa v0).toArray⟩ : ByteArray) = fb at *
    go_wp2_with fail
    refine HF.mono ?_
    rintro e w4 ⟨rfl, B4⟩
    have HB4 := Lib.hid B4
    have HK4 := HK w4 (HRS.out.1.keep B4)
    clear HF B4 HK
    go_wp2_with fail
    refine HK4.mono ?_
    rintro e w5 ⟨rfl, h5, F5⟩
    have HL := Lib.hid (And.intro h5 F5)
    clear HK4 h5 F5
    go_wp2_with fail
    go_ret2
    exact ⟨rfl, HL.out.1, ((Fr.of_below HB4.out).mono (by simp)).trans HL.out.2 (fun j hj => .inl hj)⟩
  · exact absurd q1 (hno v0)
end Go.Proofs.YtbfclibjnanlgaaGreatDoor
