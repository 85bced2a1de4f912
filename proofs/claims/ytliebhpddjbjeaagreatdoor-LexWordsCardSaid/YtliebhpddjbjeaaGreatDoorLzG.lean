/- strconv.ParseUint of digits and letters A to F, walked: to the bases 8, 10 and 16, of 16 bits and of 8. -/
import Derived.Test.YtliebhpddjbjeaaGreatDoorLzF
import Derived.Lib.ConvBytes
import Derived.Lib.Walk
import Derived.Lib.ParseIntBMem
import Derived.Laws.Strings3
import Derived.Laws.Closers25
import Derived.Laws.Closers25b
import Derived.BigCall
import Derived.BigGuard
namespace Go.Proofs.YtliebhpddjbjeaaGreatDoor
open Go.RowKit
set_option maxHeartbeats 8000000
set_option maxRecDepth 100000
set_option linter.unusedVariables false

/-- What ParseUint answers of digits: the number, or an error of one of two kinds. -/
def PuPost (r : Option Int) (w : World) (e : Ending) (w' : World) : Prop :=
  ((∃ n, r = some n ∧ e = .returned (.tuple #[.int .u64 n, .nilIface])) ∨ (r = none ∧ ∃ x k : Int, (k = 1 ∨ k = 2) ∧ e = .returned (.tuple #[.int .u64 x, .iface 170 (.int .i64 k)]))) ∧ Below w.heap.size w w'
theorem below_bytes (w : World) (t : ByteArray) : Below w.heap.size w (Lib.bytesWorld w 5 t) := Lib.bytesWorld_below _ _ _
theorem hx_cases (c : UInt8) (h : isHx c = true) : (48 ≤ c.toNat ∧ c.toNat ≤ 57 ∧ digV c = (c.toNat : Int) - 48) ∨ (65 ≤ c.toNat ∧ c.toNat ≤ 70 ∧ digV c = (c.toNat : Int) - 55) := by
  unfold isHx isDg at h
  simp at h
  unfold digV
  rcases h with ⟨h1, h2⟩ | ⟨h1, h2⟩
  · exact .inl ⟨h1, h2, by rw [if_neg (by omega)]⟩
  · exact .inr ⟨h1, h2, by rw [if_pos (by omega)]⟩
theorem low_hex (c : UInt8) (h0 : 65 ≤ c.toNat) (h1 : c.toNat ≤ 70) (w : World) :
    Calls Tryz.prog 163 #[.int .u8 (c.toNat : Int)] w fun e w' => e = .returned (.int .u8 ((c.toNat : Int) + 32)) ∧ w' = w := by
  have h := Tryz.internal_strconv_lower (c.toNat : Int) w
  have hc : c.toNat = 65 ∨ c.toNat = 66 ∨ c.toNat = 67 ∨ c.toNat = 68 ∨ c.toNat = 69 ∨ c.toNat = 70 := by omega
  rcases hc with q | q | q | q | q | q <;> (rw [q] at h ⊢; exact h)
theorem val_big (base most n : Int) (l : List UInt8) (hm : most < n) : valL base most n l = none := by
  cases l with
  | nil => unfold valL; rw [if_neg (by omega)]
  | cons c r => unfold valL; rw [if_pos (.inr hm)]
theorem val_syn (base most n : Int) (c : UInt8) (l : List UInt8) (h : base ≤ digV c) : valL base most n (c :: l) = none := by
  unfold valL; rw [if_pos (.inl h)]
theorem val_on (base most n : Int) (c : UInt8) (l : List UInt8) (h : digV c < base) (hn : n ≤ most) : valL base most n (c :: l) = valL base most (n * base + digV c) l := by
  conv => lhs; unfold valL
  rw [if_neg (by omega)]
theorem ipu_10_16 (t : ByteArray) (hne : t.size ≠ 0) (hs : t.size ≤ 1048576) (hx : ∀ b ∈ t.data.toList, isHx b = true) (w : World) :
    Calls Tryz.prog 147 #[.string t, .int .i64 10, .int .i64 16] w (PuPost (valS 10 65535 t.data.toList) w) := by
  have hemp : t.toList.isEmpty = false := by rw [empty_test]; exact decide_eq_false hne
  have hcv := Lib.run_convert_string_bytes (P := Tryz.prog) w 9 45 5 t (u := .string) Tryz.underlying9 Tryz.underlying45 Tryz.underlying5
  have hB : ∀ j, j < t.size → (Lib.bytesWorld w 5 t).cell? ⟨w.heap.size, j, none⟩ = some (.int .u8 (t.data.toList.getD j 0).toNat) := fun j hj => Lib.bytesWorld_cell w 5 t j hj
  have HBel := Lib.hid (below_bytes w t)
  obtain ⟨W1, hW1⟩ : ∃ W1, W1 = Lib.bytesWorld w 5 t := ⟨_, rfl⟩
  rw [← hW1] at hcv hB HBel
  clear hW1
  have HV : Hid (valS 10 65535 t.data.toList = valL 10 65535 0 t.data.toList) := Lib.hid (by
    unfold valS; rw [if_neg (fun e => hne (by rw [← bytes_of, e]; rfl))])
  have hLn : t.data.toList.length = t.size := bytes_of t
  have HX := Lib.hid hx
  clear hx
  generalize t.data.toList = bs at hB HV hLn HX ⊢
  have hmv : IntKind.u64.wrap (IntKind.u64.wrap 65536 - 1) = 65535 := by
    rw [IntKind.wrap_u64, IntKind.wrap_u64]
    decide
  go_enter Tryz.func147, Tryz.ntmps147
  go_wp2_with fail
  go_loop [12, 13, 101] (fun vu vn vi => ∃ (k : Nat) (a : Int), vu = .bool false ∧ vn = .int .u64 a ∧ vi = .int .i64 k ∧ k ≤ t.size ∧ 0 ≤ a ∧ a ≤ 65535 ∧ valS 10 65535 bs = valL 10 65535 a (bs.drop k))
    (fun _ _ vi => t.size - (intOf vi).toNat)
  case atStart => exact ⟨0, 0, rfl, rfl, rfl, by omega, by omega, by omega, HV.out⟩
  case round =>
    obtain ⟨k, a, rfl, rfl, rfl, hk, ha0, ha1, hd⟩ := hrel
    have HD := Lib.hid hd
    clear hd HV
    by_cases hkn : k < t.size
    · have hc := hB k hkn
      have hdrop : bs.drop k = bs[k]'(by omega) :: bs.drop (k + 1) := List.drop_eq_getElem_cons (by omega)
      have hget : bs.getD k 0 = bs[k]'(by omega) := by simp [List.getD, List.getElem?_eq_getElem (show k < bs.length by omega)]
      have hxc : isHx (bs[k]'(by omega)) = true := HX.out _ (List.getElem_mem _)
      rw [hdrop] at HD
      rw [hget] at hc
      generalize bs[k]'(by omega) = c at hc HD hxc
      have hc256 : c.toNat < 256 := c.toNat_lt
      have q95 : ((c.toNat : Int) == 95) = false := by
        rw [beq_eq_false_iff_ne]
        rcases hx_cases c hxc with ⟨h0, h1, _⟩ | ⟨h0, h1, _⟩ <;> omega
      clear hB hdrop hget
      rcases hx_cases c hxc with ⟨hd0, hd1, hv⟩ | ⟨hd0, hd1, hv⟩
      · clear hxc
        by_cases hov : 65535 < a * 10 + ((c.toNat : Int) - 48)
        · have HT : Hid (valS 10 65535 bs = none) := Lib.hid (by rw [HD.out, val_on _ _ _ _ _ (by omega) ha1]; exact val_big _ _ _ _ (by rw [hv]; exact hov))
          clear HD hv
          go_wp2_with fail
          go_ret2
          exact ⟨.inr ⟨HT.out, _, 1, .inl rfl, rfl⟩, HBel.out⟩
        · have HN : Hid (valS 10 65535 bs = valL 10 65535 (a * 10 + ((c.toNat : Int) - 48)) (bs.drop (k + 1))) := Lib.hid (by rw [HD.out, val_on _ _ _ _ _ (by omega) ha1, hv])
          have iov : a * 10 + ((c.toNat : Int) - 48) ≤ 65535 := by omega
          clear HD hv hov
          go_wp2_with fail
          go_round
          case rel => exact ⟨k + 1, a * 10 + ((c.toNat : Int) - 48), rfl, by first | rfl | (congr 1; omega), by first | rfl | (congr 1; omega), by omega, by omega, iov, HN.out⟩
          case measure => simp [intOf]; omega
      · have HL := fun w => low_hex c hd0 hd1 w
        clear hxc
        have HT : Hid (valS 10 65535 bs = none) := Lib.hid (by rw [HD.out]; exact val_syn _ _ _ _ _ (by omega))
        clear HD hv
        go_wp2_with (go_at_call 163; refine (HL _).mono ?_; rintro e w1 ⟨rfl, rfl⟩)
        go_ret2
        exact ⟨.inr ⟨HT.out, _, 2, .inr rfl, rfl⟩, HBel.out⟩
    · have HT : Hid (valS 10 65535 bs = some a) := Lib.hid (by
        rw [HD.out, List.drop_eq_nil_of_le (by omega)]; unfold valL; rw [if_pos ha1])
      clear hB
      go_wp2_with fail
      go_ret2
      exact ⟨.inl ⟨a, HT.out, rfl⟩, HBel.out⟩
theorem ipu_8_16 (t : ByteArray) (hne : t.size ≠ 0) (hs : t.size ≤ 1048576) (hx : ∀ b ∈ t.data.toList, isHx b = true) (w : World) :
    Calls Tryz.prog 147 #[.string t, .int .i64 8, .int .i64 16] w (PuPost (valS 8 65535 t.data.toList) w) := by
  have hemp : t.toList.isEmpty = false := by rw [empty_test]; exact decide_eq_false hne
  have hcv := Lib.run_convert_string_bytes (P := Tryz.prog) w 9 45 5 t (u := .string) Tryz.underlying9 Tryz.underlying45 Tryz.underlying5
  have hB : ∀ j, j < t.size → (Lib.bytesWorld w 5 t).cell? ⟨w.heap.size, j, none⟩ = some (.int .u8 (t.data.toList.getD j 0).toNat) := fun j hj => Lib.bytesWorld_cell w 5 t j hj
  have HBel := Lib.hid (below_bytes w t)
  obtain ⟨W1, hW1⟩ : ∃ W1, W1 = Lib.bytesWorld w 5 t := ⟨_, rfl⟩
  rw [← hW1] at hcv hB HBel
  clear hW1
  have HV : Hid (valS 8 65535 t.data.toList = valL 8 65535 0 t.data.toList) := Lib.hid (by
    unfold valS; rw [if_neg (fun e => hne (by rw [← bytes_of, e]; rfl))])
  have hLn : t.data.toList.length = t.size := bytes_of t
  have HX := Lib.hid hx
  clear hx
  generalize t.data.toList = bs at hB HV hLn HX ⊢
  have hmv : IntKind.u64.wrap (IntKind.u64.wrap 65536 - 1) = 65535 := by
    rw [IntKind.wrap_u64, IntKind.wrap_u64]
    decide
  go_enter Tryz.func147, Tryz.ntmps147
  go_wp2_with fail
  go_loop [12, 13, 101] (fun vu vn vi => ∃ (k : Nat) (a : Int), vu = .bool false ∧ vn = .int .u64 a ∧ vi = .int .i64 k ∧ k ≤ t.size ∧ 0 ≤ a ∧ a ≤ 65535 ∧ valS 8 65535 bs = valL 8 65535 a (bs.drop k))
    (fun _ _ vi => t.size - (intOf vi).toNat)
  case atStart => exact ⟨0, 0, rfl, rfl, rfl, by omega, by omega, by omega, HV.out⟩
  case round =>
    obtain ⟨k, a, rfl, rfl, rfl, hk, ha0, ha1, hd⟩ := hrel
    have HD := Lib.hid hd
    clear hd HV
    by_cases hkn : k < t.size
    · have hc := hB k hkn
      have hdrop : bs.drop k = bs[k]'(by omega) :: bs.drop (k + 1) := List.drop_eq_getElem_cons (by omega)
      have hget : bs.getD k 0 = bs[k]'(by omega) := by simp [List.getD, List.getElem?_eq_getElem (show k < bs.length by omega)]
      have hxc : isHx (bs[k]'(by omega)) = true := HX.out _ (List.getElem_mem _)
      rw [hdrop] at HD
      rw [hget] at hc
      generalize bs[k]'(by omega) = c at hc HD hxc
      have hc256 : c.toNat < 256 := c.toNat_lt
      have q95 : ((c.toNat : Int) == 95) = false := by
        rw [beq_eq_false_iff_ne]
        rcases hx_cases c hxc with ⟨h0, h1, _⟩ | ⟨h0, h1, _⟩ <;> omega
      clear hB hdrop hget
      rcases hx_cases c hxc with ⟨hd0, hd1, hv⟩ | ⟨hd0, hd1, hv⟩
      · clear hxc
        by_cases h8 : 8 ≤ (c.toNat : Int) - 48
        · have HT : Hid (valS 8 65535 bs = none) := Lib.hid (by rw [HD.out]; exact val_syn _ _ _ _ _ (by omega))
          clear HD hv
          go_wp2_with fail
          go_ret2
          exact ⟨.inr ⟨HT.out, _, 2, .inr rfl, rfl⟩, HBel.out⟩
        · by_cases hov : 65535 < a * 8 + ((c.toNat : Int) - 48)
          · have HT : Hid (valS 8 65535 bs = none) := Lib.hid (by rw [HD.out, val_on _ _ _ _ _ (by omega) ha1]; exact val_big _ _ _ _ (by rw [hv]; exact hov))
            clear HD hv
            go_wp2_with fail
            go_ret2
            exact ⟨.inr ⟨HT.out, _, 1, .inl rfl, rfl⟩, HBel.out⟩
          · have HN : Hid (valS 8 65535 bs = valL 8 65535 (a * 8 + ((c.toNat : Int) - 48)) (bs.drop (k + 1))) := Lib.hid (by rw [HD.out, val_on _ _ _ _ _ (by omega) ha1, hv])
            have iov : a * 8 + ((c.toNat : Int) - 48) ≤ 65535 := by omega
            clear HD hv hov
            go_wp2_with fail
            go_round
            case rel => exact ⟨k + 1, a * 8 + ((c.toNat : Int) - 48), rfl, by first | rfl | (congr 1; omega), by first | rfl | (congr 1; omega), by omega, by omega, iov, HN.out⟩
            case measure => simp [intOf]; omega
      · have HL := fun w => low_hex c hd0 hd1 w
        clear hxc
        have HT : Hid (valS 8 65535 bs = none) := Lib.hid (by rw [HD.out]; exact val_syn _ _ _ _ _ (by omega))
        clear HD hv
        go_wp2_with (go_at_call 163; refine (HL _).mono ?_; rintro e w1 ⟨rfl, rfl⟩)
        go_ret2
        exact ⟨.inr ⟨HT.out, _, 2, .inr rfl, rfl⟩, HBel.out⟩
    · have HT : Hid (valS 8 65535 bs = some a) := Lib.hid (by
        rw [HD.out, List.drop_eq_nil_of_le (by omega)]; unfold valL; rw [if_pos ha1])
      clear hB
      go_wp2_with fail
      go_ret2
      exact ⟨.inl ⟨a, HT.out, rfl⟩, HBel.out⟩
theorem ipu_8_8 (t : ByteArray) (hne : t.size ≠ 0) (hs : t.size ≤ 1048576) (hx : ∀ b ∈ t.data.toList, isHx b = true) (w : World) :
    Calls Tryz.prog 147 #[.string t, .int .i64 8, .int .i64 8] w (PuPost (valS 8 255 t.data.toList) w) := by
  have hemp : t.toList.isEmpty = false := by rw [empty_test]; exact decide_eq_false hne
  have hcv := Lib.run_convert_string_bytes (P := Tryz.prog) w 9 45 5 t (u := .string) Tryz.underlying9 Tryz.underlying45 Tryz.underlying5
  have hB : ∀ j, j < t.size → (Lib.bytesWorld w 5 t).cell? ⟨w.heap.size, j, none⟩ = some (.int .u8 (t.data.toList.getD j 0).toNat) := fun j hj => Lib.bytesWorld_cell w 5 t j hj
  have HBel := Lib.hid (below_bytes w t)
  obtain ⟨W1, hW1⟩ : ∃ W1, W1 = Lib.bytesWorld w 5 t := ⟨_, rfl⟩
  rw [← hW1] at hcv hB HBel
  clear hW1
  have HV : Hid (valS 8 255 t.data.toList = valL 8 255 0 t.data.toList) := Lib.hid (by
    unfold valS; rw [if_neg (fun e => hne (by rw [← bytes_of, e]; rfl))])
  have hLn : t.data.toList.length = t.size := bytes_of t
  have HX := Lib.hid hx
  clear hx
  generalize t.data.toList = bs at hB HV hLn HX ⊢
  have hmv : IntKind.u64.wrap (IntKind.u64.wrap 256 - 1) = 255 := by
    rw [IntKind.wrap_u64, IntKind.wrap_u64]
    decide
  go_enter Tryz.func147, Tryz.ntmps147
  go_wp2_with fail
  go_loop [12, 13, 101] (fun vu vn vi => ∃ (k : Nat) (a : Int), vu = .bool false ∧ vn = .int .u64 a ∧ vi = .int .i64 k ∧ k ≤ t.size ∧ 0 ≤ a ∧ a ≤ 255 ∧ valS 8 255 bs = valL 8 255 a (bs.drop k))
    (fun _ _ vi => t.size - (intOf vi).toNat)
  case atStart => exact ⟨0, 0, rfl, rfl, rfl, by omega, by omega, by omega, HV.out⟩
  case round =>
    obtain ⟨k, a, rfl, rfl, rfl, hk, ha0, ha1, hd⟩ := hrel
    have HD := Lib.hid hd
    clear hd HV
    by_cases hkn : k < t.size
    · have hc := hB k hkn
      have hdrop : bs.drop k = bs[k]'(by omega) :: bs.drop (k + 1) := List.drop_eq_getElem_cons (by omega)
      have hget : bs.getD k 0 = bs[k]'(by omega) := by simp [List.getD, List.getElem?_eq_getElem (show k < bs.length by omega)]
      have hxc : isHx (bs[k]'(by omega)) = true := HX.out _ (List.getElem_mem _)
      rw [hdrop] at HD
      rw [hget] at hc
      generalize bs[k]'(by omega) = c at hc HD hxc
      have hc256 : c.toNat < 256 := c.toNat_lt
      have q95 : ((c.toNat : Int) == 95) = false := by
        rw [beq_eq_false_iff_ne]
        rcases hx_cases c hxc with ⟨h0, h1, _⟩ | ⟨h0, h1, _⟩ <;> omega
      clear hB hdrop hget
      rcases hx_cases c hxc with ⟨hd0, hd1, hv⟩ | ⟨hd0, hd1, hv⟩
      · clear hxc
        by_cases h8 : 8 ≤ (c.toNat : Int) - 48
        · have HT : Hid (valS 8 255 bs = none) := Lib.hid (by rw [HD.out]; exact val_syn _ _ _ _ _ (by omega))
          clear HD hv
          go_wp2_with fail
          go_ret2
          exact ⟨.inr ⟨HT.out, _, 2, .inr rfl, rfl⟩, HBel.out⟩
        · by_cases hov : 255 < a * 8 + ((c.toNat : Int) - 48)
          · have HT : Hid (valS 8 255 bs = none) := Lib.hid (by rw [HD.out, val_on _ _ _ _ _ (by omega) ha1]; exact val_big _ _ _ _ (by rw [hv]; exact hov))
            clear HD hv
            go_wp2_with fail
            go_ret2
            exact ⟨.inr ⟨HT.out, _, 1, .inl rfl, rfl⟩, HBel.out⟩
          · have HN : Hid (valS 8 255 bs = valL 8 255 (a * 8 + ((c.toNat : Int) - 48)) (bs.drop (k + 1))) := Lib.hid (by rw [HD.out, val_on _ _ _ _ _ (by omega) ha1, hv])
            have iov : a * 8 + ((c.toNat : Int) - 48) ≤ 255 := by omega
            clear HD hv hov
            go_wp2_with fail
            go_round
            case rel => exact ⟨k + 1, a * 8 + ((c.toNat : Int) - 48), rfl, by first | rfl | (congr 1; omega), by first | rfl | (congr 1; omega), by omega, by omega, iov, HN.out⟩
            case measure => simp [intOf]; omega
      · have HL := fun w => low_hex c hd0 hd1 w
        clear hxc
        have HT : Hid (valS 8 255 bs = none) := Lib.hid (by rw [HD.out]; exact val_syn _ _ _ _ _ (by omega))
        clear HD hv
        go_wp2_with (go_at_call 163; refine (HL _).mono ?_; rintro e w1 ⟨rfl, rfl⟩)
        go_ret2
        exact ⟨.inr ⟨HT.out, _, 2, .inr rfl, rfl⟩, HBel.out⟩
    · have HT : Hid (valS 8 255 bs = some a) := Lib.hid (by
        rw [HD.out, List.drop_eq_nil_of_le (by omega)]; unfold valL; rw [if_pos ha1])
      clear hB
      go_wp2_with fail
      go_ret2
      exact ⟨.inl ⟨a, HT.out, rfl⟩, HBel.out⟩
theorem ipu_16_16 (t : ByteArray) (hne : t.size ≠ 0) (hs : t.size ≤ 1048576) (hx : ∀ b ∈ t.data.toList, isHx b = true) (w : World) :
    Calls Tryz.prog 147 #[.string t, .int .i64 16, .int .i64 16] w (PuPost (valS 16 65535 t.data.toList) w) := by
  have hemp : t.toList.isEmpty = false := by rw [empty_test]; exact decide_eq_false hne
  have hcv := Lib.run_convert_string_bytes (P := Tryz.prog) w 9 45 5 t (u := .string) Tryz.underlying9 Tryz.underlying45 Tryz.underlying5
  have hB : ∀ j, j < t.size → (Lib.bytesWorld w 5 t).cell? ⟨w.heap.size, j, none⟩ = some (.int .u8 (t.data.toList.getD j 0).toNat) := fun j hj => Lib.bytesWorld_cell w 5 t j hj
  have HBel := Lib.hid (below_bytes w t)
  obtain ⟨W1, hW1⟩ : ∃ W1, W1 = Lib.bytesWorld w 5 t := ⟨_, rfl⟩
  rw [← hW1] at hcv hB HBel
  clear hW1
  have HV : Hid (valS 16 65535 t.data.toList = valL 16 65535 0 t.data.toList) := Lib.hid (by
    unfold valS; rw [if_neg (fun e => hne (by rw [← bytes_of, e]; rfl))])
  have hLn : t.data.toList.length = t.size := bytes_of t
  have HX := Lib.hid hx
  clear hx
  generalize t.data.toList = bs at hB HV hLn HX ⊢
  have hmv : IntKind.u64.wrap (IntKind.u64.wrap 65536 - 1) = 65535 := by
    rw [IntKind.wrap_u64, IntKind.wrap_u64]
    decide
  go_enter Tryz.func147, Tryz.ntmps147
  go_wp2_with fail
  go_loop [12, 13, 101] (fun vu vn vi => ∃ (k : Nat) (a : Int), vu = .bool false ∧ vn = .int .u64 a ∧ vi = .int .i64 k ∧ k ≤ t.size ∧ 0 ≤ a ∧ a ≤ 65535 ∧ valS 16 65535 bs = valL 16 65535 a (bs.drop k))
    (fun _ _ vi => t.size - (intOf vi).toNat)
  case atStart => exact ⟨0, 0, rfl, rfl, rfl, by omega, by omega, by omega, HV.out⟩
  case round =>
    obtain ⟨k, a, rfl, rfl, rfl, hk, ha0, ha1, hd⟩ := hrel
    have HD := Lib.hid hd
    clear hd HV
    by_cases hkn : k < t.size
    · have hc := hB k hkn
      have hdrop : bs.drop k = bs[k]'(by omega) :: bs.drop (k + 1) := List.drop_eq_getElem_cons (by omega)
      have hget : bs.getD k 0 = bs[k]'(by omega) := by simp [List.getD, List.getElem?_eq_getElem (show k < bs.length by omega)]
      have hxc : isHx (bs[k]'(by omega)) = true := HX.out _ (List.getElem_mem _)
      rw [hdrop] at HD
      rw [hget] at hc
      generalize bs[k]'(by omega) = c at hc HD hxc
      have hc256 : c.toNat < 256 := c.toNat_lt
      have q95 : ((c.toNat : Int) == 95) = false := by
        rw [beq_eq_false_iff_ne]
        rcases hx_cases c hxc with ⟨h0, h1, _⟩ | ⟨h0, h1, _⟩ <;> omega
      clear hB hdrop hget
      rcases hx_cases c hxc with ⟨hd0, hd1, hv⟩ | ⟨hd0, hd1, hv⟩
      · clear hxc
        by_cases hov : 65535 < a * 16 + ((c.toNat : Int) - 48)
        · have HT : Hid (valS 16 65535 bs = none) := Lib.hid (by rw [HD.out, val_on _ _ _ _ _ (by omega) ha1]; exact val_big _ _ _ _ (by rw [hv]; exact hov))
          clear HD hv
          go_wp2_with fail
          go_ret2
          exact ⟨.inr ⟨HT.out, _, 1, .inl rfl, rfl⟩, HBel.out⟩
        · have HN : Hid (valS 16 65535 bs = valL 16 65535 (a * 16 + ((c.toNat : Int) - 48)) (bs.drop (k + 1))) := Lib.hid (by rw [HD.out, val_on _ _ _ _ _ (by omega) ha1, hv])
          have iov : a * 16 + ((c.toNat : Int) - 48) ≤ 65535 := by omega
          clear HD hv hov
          go_wp2_with fail
          go_round
          case rel => exact ⟨k + 1, a * 16 + ((c.toNat : Int) - 48), rfl, by first | rfl | (congr 1; omega), by first | rfl | (congr 1; omega), by omega, by omega, iov, HN.out⟩
          case measure => simp [intOf]; omega
      · have HL := fun w => low_hex c hd0 hd1 w
        clear hxc
        by_cases hov : 65535 < a * 16 + ((c.toNat : Int) - 55)
        · have HT : Hid (valS 16 65535 bs = none) := Lib.hid (by rw [HD.out, val_on _ _ _ _ _ (by omega) ha1]; exact val_big _ _ _ _ (by rw [hv]; exact hov))
          clear HD hv
          go_wp2_with (go_at_call 163; refine (HL _).mono ?_; rintro e w1 ⟨rfl, rfl⟩)
          go_ret2
          exact ⟨.inr ⟨HT.out, _, 1, .inl rfl, rfl⟩, HBel.out⟩
        · have HN : Hid (valS 16 65535 bs = valL 16 65535 (a * 16 + ((c.toNat : Int) - 55)) (bs.drop (k + 1))) := Lib.hid (by rw [HD.out, val_on _ _ _ _ _ (by omega) ha1, hv])
          have iov : a * 16 + ((c.toNat : Int) - 55) ≤ 65535 := by omega
          clear HD hv hov
          go_wp2_with (go_at_call 163; refine (HL _).mono ?_; rintro e w1 ⟨rfl, rfl⟩)
          go_round
          case rel => exact ⟨k + 1, a * 16 + ((c.toNat : Int) - 55), rfl, by first | rfl | (congr 1; omega), by first | rfl | (congr 1; omega), by omega, by omega, iov, HN.out⟩
          case measure => simp [intOf]; omega
    · have HT : Hid (valS 16 65535 bs = some a) := Lib.hid (by
        rw [HD.out, List.drop_eq_nil_of_le (by omega)]; unfold valL; rw [if_pos ha1])
      clear hB
      go_wp2_with fail
      go_ret2
      exact ⟨.inl ⟨a, HT.out, rfl⟩, HBel.out⟩
end Go.Proofs.YtliebhpddjbjeaaGreatDoor
