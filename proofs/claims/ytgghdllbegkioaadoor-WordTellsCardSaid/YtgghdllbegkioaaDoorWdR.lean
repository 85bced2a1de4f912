/- WordTexts, walked: words are written as the numbers that they are. -/
import Derived.Test.YtgghdllbegkioaaDoorWdG
import Derived.Test.YtgghdllbegkioaaDoorWdQ
import Derived.LoopTactic
namespace Go.Proofs.YtgghdllbegkioaaDoor
open Go.RowKit
set_option maxHeartbeats 4000000
set_option maxRecDepth 100000
set_option linter.unusedVariables false

/-- The text of a word. -/
def textS (s : Bool) (a : Int) : ByteArray := ⟨(textN s a).toArray⟩
theorem Text_s (s : Bool) (a : Int) (h0 : 0 ≤ a) (h1 : a ≤ 65535) (w : World) (htab : Lib.TabIs Tryd.prog w "internal/strconv.uint64pow10" .u64 Lib.pow10Tab) :
    Calls Tryd.prog 20 #[.bool s, .int .u16 a] w fun e w' => e = .returned (.string (textS s a)) ∧ Below w.heap.size w w' := Text_any s a h0 h1 w htab
theorem textS_list (s : Bool) (a : Int) : (textS s a).data.toList = textN s a := rfl
theorem textN_inj (s : Bool) (a b : Int) (a0 : 0 ≤ a) (a1 : a ≤ 65535) (b0 : 0 ≤ b) (b1 : b ≤ 65535) (h : textN s a = textN s b) : a = b := by
  unfold textN at h
  have h2 := itoa_inj _ _ h
  cases s
  · simpa using h2
  · exact sg_inj a b a0 a1 b0 b1 (by simpa using h2)
theorem list_eq (s : Bool) (a b : Int) (a0 : 0 ≤ a) (a1 : a ≤ 65535) (b0 : 0 ≤ b) (b1 : b ≤ 65535) : ((textS s a).toList == (textS s b).toList) = (a == b) := by
  rw [ByteArray.toList_eq, ByteArray.toList_eq, textS_list, textS_list]
  by_cases h : a = b
  · subst h; simp
  · rw [beq_eq_false_iff_ne.2 h, beq_eq_false_iff_ne]
    exact fun e => h (textN_inj s a b a0 a1 b0 b1 e)
theorem get_list (S : ByteArray) (k : Nat) (h : k < S.size) : S[k] = S.data.toList[k]'(by simpa using h) := by
  show S.data[k] = _
  simp
theorem take_one_more (S : ByteArray) (k : Nat) (h : k < S.size) : S.data.toList.take (k + 1) = S.data.toList.take k ++ [S[k]] := by
  rw [List.take_succ_eq_append_getElem (by simpa using h), get_list S k h]
theorem size_list (S : ByteArray) : S.data.toList.length = S.size := by simp
theorem len_lt (v : Int) (h0 : -32768 ≤ v) (h1 : v ≤ 65535) : 0 < (Lib.itoa v).length ∧ (Lib.itoa v).length ≤ 6 := by
  by_cases h : v < 0
  · rw [itoa_neg' v h]
    have := dec_len 4 v.natAbs (by omega)
    simp only [List.length_cons]; omega
  · rw [itoa_pos' v (by omega)]
    have := dec_len 4 v.toNat (by omega)
    have h3 := (dec_all v.toNat).2.2
    have h4 : (Lib.decDigits v.toNat).length ≠ 0 := fun e => h3 (List.eq_nil_of_length_eq_zero e)
    omega
theorem Of_is (n a : Int) (h0 : -32768 ≤ n) (h1 : n ≤ 65535) (h : n % 65536 = a) (w : World) :
    Calls Tryd.prog 14 #[.int .i64 n] w fun e w' => e = .returned (.tuple #[.int .u16 a, .bool true]) ∧ w = w' := by
  have h2 := Of_any n (by omega) (by omega) w
  rw [show ofN n = (a, true) by unfold ofN; rw [if_neg (by omega), h]] at h2
  exact h2

theorem texts_u (a b : Int) (a0 : 0 ≤ a) (a1 : a ≤ 65535) (b0 : 0 ≤ b) (b1 : b ≤ 65535)  (w : World) (htab : Lib.TabIs Tryd.prog w "internal/strconv.uint64pow10" .u64 Lib.pow10Tab) :
    Calls Tryd.prog 8 #[.int .u16 a, .int .u16 b, .bool false] w fun e w' => e = .returned (.bool true) ∧ Below w.heap.size w w' := by
  have HT := Lib.hid htab
  clear htab
  obtain ⟨g0, g1⟩ := sg_bd a a0 a1
  have hlist := list_eq false a b a0 a1 b0 b1
  obtain ⟨r, hr⟩ : ∃ r : Bool, (a == b) = r := ⟨_, rfl⟩
  rw [hr] at hlist
  have hdata : (textS false a).data.toList = Lib.itoa a := by rw [textS_list]; rfl
  obtain ⟨len0, len1⟩ := len_lt a (by omega) (by omega)
  have hmod : a % 65536 = a := by omega
  have HM := Lib.hid hmod
  clear hmod
  go_enter Tryd.func8, Tryd.ntmps8
  go_wp2_with fail
  refine (Text_s false a a0 a1 _ HT.out).mono ?_
  rintro e w1 ⟨rfl, q1⟩
  have HT1 := Lib.hid (Joins.tab_stays gTab HT.out q1 (Nat.le_refl _))
  obtain ⟨S, hS⟩ : ∃ S, textS false a = S := ⟨_, rfl⟩
  rw [hS] at hlist hdata ⊢
  go_wp2_with fail
  refine (Text_s false b b0 b1 _ HT1.out).mono ?_
  rintro e w2 ⟨rfl, q2⟩
  have q := bt q1 q2
  have HT2 := Lib.hid (Joins.tab_stays gTab HT.out q (Nat.le_refl _))
  obtain ⟨T, hT⟩ : ∃ S, textS false b = S := ⟨_, rfl⟩
  rw [hT] at hlist ⊢
  have hsz : S.size = (Lib.itoa a).length := by rw [← size_list S, hdata]
  have hpos : 0 < S.size := by omega
  have hmax : S.size ≤ 6 := by omega
  have hem : S.toList.isEmpty = false := by
    rw [ByteArray.toList_eq, List.isEmpty_eq_false_iff]
    intro e
    have := size_list S
    rw [e] at this
    simp at this
    omega
  have hbytes : ∀ k (h : k < S.size), 48 ≤ S[k].toNat ∧ S[k].toNat ≤ 57 := by
    intro k h
    rw [get_list S k h]
    have hd := hdata
    rw [itoa_pos' a (by omega)] at hd
    have hj : k < (Lib.decDigits (a).toNat).length := by rw [itoa_pos' a (by omega)] at hsz; omega
    have he : S.data.toList[k]'(by rw [size_list]; exact h) = (Lib.decDigits (a).toNat)[k] := by simp only [hd]
    rw [he]
    exact (dec_all _).2.1 _ (List.getElem_mem hj)
  have hval : ((dval S.data.toList : Nat) : Int) = a := by
    rw [hdata, itoa_pos' a (by omega), (dec_all _).1]
    omega
  have hf1 : (((S[0].toNat : Nat) : Int) == 45) = false := by
    have := hbytes 0 hpos
    rw [beq_eq_false_iff_ne]; omega
  have hbd : ∀ k, k ≤ S.size → dval (S.data.toList.take (k)) < 1000000 := by
    intro k hk
    have h1 := dval_lt (S.data.toList.take (k)) (by
      intro c hc
      obtain ⟨j, hj, rfl⟩ := List.getElem_of_mem hc
      simp only [List.length_take, size_list] at hj
      simp only [List.getElem_take]
      have h3 := hbytes j (by omega)
      rw [get_list] at h3
      exact h3)
    have h2 : (10 : Nat) ^ (S.data.toList.take (k)).length ≤ 10 ^ 6 := Nat.pow_le_pow_right (by omega) (by simp only [List.length_take, size_list]; omega)
    omega
  have HB := Lib.hid hbytes
  have HV := Lib.hid hval
  have HBD := Lib.hid hbd
  have HD := Lib.hid hdata
  have HSZ := Lib.hid hsz
  clear hbytes hval hbd hdata hsz hS hT q1 q2
  go_wp2_with fail
  go_loop [10, 11] (fun n i => ∃ k : Nat, k ≤ S.size ∧ i = .int .i64 k ∧ n = .int .i64 (dval (S.data.toList.take (k)) : Nat)) (fun _ i => S.size - (intOf i).toNat)
  case atStart => exact ⟨0, Nat.zero_le _, rfl, rfl⟩
  case round =>
    obtain ⟨k, hk, rfl, rfl⟩ := hrel
    have hbk := HBD.out k hk
    by_cases hlt : k < S.size
    · have h48 : (48 : Int) ≤ (S[k].toNat : Int) := by have := HB.out k hlt; omega
      have h57 : (S[k].toNat : Int) ≤ 57 := by have := HB.out k hlt; omega
      have h45 : ((S[k].toNat : Int) == 45) = false := by rw [beq_eq_false_iff_ne]; omega
      have HN : Hid (dval (S.data.toList.take (k + 1)) = 10 * dval (S.data.toList.take (k)) + (S[k].toNat - 48)) := Lib.hid (by
        rw [take_one_more S k hlt, dval_snoc])
      obtain ⟨d, hd⟩ : ∃ d : Nat, dval (S.data.toList.take (k)) = d := ⟨_, rfl⟩
      rw [hd] at hbk HN ⊢
      clear hd
      go_wp2_with fail
      go_round
      case rel => exact ⟨k + 1, by omega, by go_num, by rw [HN.out]; go_num⟩
      case measure => simp [intOf]; omega
    · have hks : k = S.size := by omega
      have hfin : ((dval (S.data.toList.take (k)) : Nat) : Int) = a := by
        rw [List.take_of_length_le (by rw [size_list]; omega)]; exact HV.out
      rw [hfin]
      clear hfin hbk hks
      go_wp2_with fail
      refine (Of_is a a (by omega) (by omega) HM.out _).mono ?_
      rintro e w3 ⟨rfl, rfl⟩
      go_wp2_with fail
      refine (alive_any _ HT2.out).mono ?_
      rintro e w5 ⟨rfl, q5⟩
      have qz := bt q q5
      go_wp2_with fail
      go_ret
      exact ⟨rfl, qz⟩

theorem texts_p (a b : Int) (a0 : 0 ≤ a) (a1 : a ≤ 65535) (b0 : 0 ≤ b) (b1 : b ≤ 65535) (hp : 0 ≤ sg a) (w : World) (htab : Lib.TabIs Tryd.prog w "internal/strconv.uint64pow10" .u64 Lib.pow10Tab) :
    Calls Tryd.prog 8 #[.int .u16 a, .int .u16 b, .bool true] w fun e w' => e = .returned (.bool true) ∧ Below w.heap.size w w' := by
  have HT := Lib.hid htab
  clear htab
  obtain ⟨g0, g1⟩ := sg_bd a a0 a1
  have hlist := list_eq true a b a0 a1 b0 b1
  obtain ⟨r, hr⟩ : ∃ r : Bool, (a == b) = r := ⟨_, rfl⟩
  rw [hr] at hlist
  have hdata : (textS true a).data.toList = Lib.itoa (sg a) := by rw [textS_list]; rfl
  obtain ⟨len0, len1⟩ := len_lt (sg a) (by omega) (by omega)
  have hmod : (sg a) % 65536 = a := by unfold sg; split <;> omega
  have HM := Lib.hid hmod
  clear hmod
  go_enter Tryd.func8, Tryd.ntmps8
  go_wp2_with fail
  refine (Text_s true a a0 a1 _ HT.out).mono ?_
  rintro e w1 ⟨rfl, q1⟩
  have HT1 := Lib.hid (Joins.tab_stays gTab HT.out q1 (Nat.le_refl _))
  obtain ⟨S, hS⟩ : ∃ S, textS true a = S := ⟨_, rfl⟩
  rw [hS] at hlist hdata ⊢
  go_wp2_with fail
  refine (Text_s true b b0 b1 _ HT1.out).mono ?_
  rintro e w2 ⟨rfl, q2⟩
  have q := bt q1 q2
  have HT2 := Lib.hid (Joins.tab_stays gTab HT.out q (Nat.le_refl _))
  obtain ⟨T, hT⟩ : ∃ S, textS true b = S := ⟨_, rfl⟩
  rw [hT] at hlist ⊢
  have hsz : S.size = (Lib.itoa (sg a)).length := by rw [← size_list S, hdata]
  have hpos : 0 < S.size := by omega
  have hmax : S.size ≤ 6 := by omega
  have hem : S.toList.isEmpty = false := by
    rw [ByteArray.toList_eq, List.isEmpty_eq_false_iff]
    intro e
    have := size_list S
    rw [e] at this
    simp at this
    omega
  have hbytes : ∀ k (h : k < S.size), 48 ≤ S[k].toNat ∧ S[k].toNat ≤ 57 := by
    intro k h
    rw [get_list S k h]
    have hd := hdata
    rw [itoa_pos' (sg a) (by omega)] at hd
    have hj : k < (Lib.decDigits ((sg a)).toNat).length := by rw [itoa_pos' (sg a) (by omega)] at hsz; omega
    have he : S.data.toList[k]'(by rw [size_list]; exact h) = (Lib.decDigits ((sg a)).toNat)[k] := by simp only [hd]
    rw [he]
    exact (dec_all _).2.1 _ (List.getElem_mem hj)
  have hval : ((dval S.data.toList : Nat) : Int) = (sg a) := by
    rw [hdata, itoa_pos' (sg a) (by omega), (dec_all _).1]
    omega
  have hf1 : (((S[0].toNat : Nat) : Int) == 45) = false := by
    have := hbytes 0 hpos
    rw [beq_eq_false_iff_ne]; omega
  have hbd : ∀ k, k ≤ S.size → dval (S.data.toList.take (k)) < 1000000 := by
    intro k hk
    have h1 := dval_lt (S.data.toList.take (k)) (by
      intro c hc
      obtain ⟨j, hj, rfl⟩ := List.getElem_of_mem hc
      simp only [List.length_take, size_list] at hj
      simp only [List.getElem_take]
      have h3 := hbytes j (by omega)
      rw [get_list] at h3
      exact h3)
    have h2 : (10 : Nat) ^ (S.data.toList.take (k)).length ≤ 10 ^ 6 := Nat.pow_le_pow_right (by omega) (by simp only [List.length_take, size_list]; omega)
    omega
  have HB := Lib.hid hbytes
  have HV := Lib.hid hval
  have HBD := Lib.hid hbd
  have HD := Lib.hid hdata
  have HSZ := Lib.hid hsz
  clear hbytes hval hbd hdata hsz hS hT q1 q2
  go_wp2_with fail
  go_loop [10, 11] (fun n i => ∃ k : Nat, k ≤ S.size ∧ i = .int .i64 k ∧ n = .int .i64 (dval (S.data.toList.take (k)) : Nat)) (fun _ i => S.size - (intOf i).toNat)
  case atStart => exact ⟨0, Nat.zero_le _, rfl, rfl⟩
  case round =>
    obtain ⟨k, hk, rfl, rfl⟩ := hrel
    have hbk := HBD.out k hk
    by_cases hlt : k < S.size
    · have h48 : (48 : Int) ≤ (S[k].toNat : Int) := by have := HB.out k hlt; omega
      have h57 : (S[k].toNat : Int) ≤ 57 := by have := HB.out k hlt; omega
      have h45 : ((S[k].toNat : Int) == 45) = false := by rw [beq_eq_false_iff_ne]; omega
      have HN : Hid (dval (S.data.toList.take (k + 1)) = 10 * dval (S.data.toList.take (k)) + (S[k].toNat - 48)) := Lib.hid (by
        rw [take_one_more S k hlt, dval_snoc])
      obtain ⟨d, hd⟩ : ∃ d : Nat, dval (S.data.toList.take (k)) = d := ⟨_, rfl⟩
      rw [hd] at hbk HN ⊢
      clear hd
      go_wp2_with fail
      go_round
      case rel => exact ⟨k + 1, by omega, by go_num, by rw [HN.out]; go_num⟩
      case measure => simp [intOf]; omega
    · have hks : k = S.size := by omega
      have hfin : ((dval (S.data.toList.take (k)) : Nat) : Int) = (sg a) := by
        rw [List.take_of_length_le (by rw [size_list]; omega)]; exact HV.out
      rw [hfin]
      clear hfin hbk hks
      go_wp2_with fail
      refine (Of_is (sg a) a (by omega) (by omega) HM.out _).mono ?_
      rintro e w3 ⟨rfl, rfl⟩
      go_wp2_with fail
      refine (Int_any a a0 a1 _).mono ?_
      rintro e w4 ⟨rfl, rfl⟩
      go_wp2_with fail
      refine (alive_any _ HT2.out).mono ?_
      rintro e w5 ⟨rfl, q5⟩
      have qz := bt q q5
      go_wp2_with fail
      go_ret
      exact ⟨rfl, qz⟩

theorem texts_n (a b : Int) (a0 : 0 ≤ a) (a1 : a ≤ 65535) (b0 : 0 ≤ b) (b1 : b ≤ 65535) (hn : sg a < 0) (w : World) (htab : Lib.TabIs Tryd.prog w "internal/strconv.uint64pow10" .u64 Lib.pow10Tab) :
    Calls Tryd.prog 8 #[.int .u16 a, .int .u16 b, .bool true] w fun e w' => e = .returned (.bool true) ∧ Below w.heap.size w w' := by
  have HT := Lib.hid htab
  clear htab
  obtain ⟨g0, g1⟩ := sg_bd a a0 a1
  have hlist := list_eq true a b a0 a1 b0 b1
  obtain ⟨r, hr⟩ : ∃ r : Bool, (a == b) = r := ⟨_, rfl⟩
  rw [hr] at hlist
  have hdata : (textS true a).data.toList = Lib.itoa (sg a) := by rw [textS_list]; rfl
  obtain ⟨len0, len1⟩ := len_lt (sg a) (by omega) (by omega)
  have hmod : (sg a) % 65536 = a := by unfold sg; split <;> omega
  have HM := Lib.hid hmod
  clear hmod
  go_enter Tryd.func8, Tryd.ntmps8
  go_wp2_with fail
  refine (Text_s true a a0 a1 _ HT.out).mono ?_
  rintro e w1 ⟨rfl, q1⟩
  have HT1 := Lib.hid (Joins.tab_stays gTab HT.out q1 (Nat.le_refl _))
  obtain ⟨S, hS⟩ : ∃ S, textS true a = S := ⟨_, rfl⟩
  rw [hS] at hlist hdata ⊢
  go_wp2_with fail
  refine (Text_s true b b0 b1 _ HT1.out).mono ?_
  rintro e w2 ⟨rfl, q2⟩
  have q := bt q1 q2
  have HT2 := Lib.hid (Joins.tab_stays gTab HT.out q (Nat.le_refl _))
  obtain ⟨T, hT⟩ : ∃ S, textS true b = S := ⟨_, rfl⟩
  rw [hT] at hlist ⊢
  have hsz : S.size = (Lib.itoa (sg a)).length := by rw [← size_list S, hdata]
  have hpos : 0 < S.size := by omega
  have hmax : S.size ≤ 6 := by omega
  have hem : S.toList.isEmpty = false := by
    rw [ByteArray.toList_eq, List.isEmpty_eq_false_iff]
    intro e
    have := size_list S
    rw [e] at this
    simp at this
    omega
  have hbytes : ∀ k (h : k < S.size), 1 ≤ k → 48 ≤ S[k].toNat ∧ S[k].toNat ≤ 57 := by
    intro k h h1k
    rw [get_list S k h]
    have hd := hdata
    rw [itoa_neg' (sg a) hn] at hd
    obtain ⟨j, rfl⟩ : ∃ j, k = j + 1 := ⟨k - 1, by omega⟩
    have hj : j < (Lib.decDigits ((sg a)).natAbs).length := by rw [itoa_neg' (sg a) hn] at hsz; simp only [List.length_cons] at hsz; omega
    have he : S.data.toList[j + 1]'(by rw [size_list]; exact h) = (Lib.decDigits ((sg a)).natAbs)[j] := by simp only [hd, List.getElem_cons_succ]
    rw [he]
    exact (dec_all _).2.1 _ (List.getElem_mem hj)
  have hfirst : S[0].toNat = 45 := by
    rw [get_list S 0 hpos]
    have hd := hdata
    rw [itoa_neg' (sg a) hn] at hd
    simp only [hd, List.getElem_cons_zero]
    rfl
  have hval : ((dval (S.data.toList.drop 1) : Nat) : Int) = -((sg a)) := by
    rw [hdata, itoa_neg' (sg a) hn, List.drop_succ_cons, List.drop_zero, (dec_all _).1]
    omega
  have hf1 : (((S[0].toNat : Nat) : Int) == 45) = true := by rw [hfirst]; rfl
  have hbd : ∀ k, k ≤ S.size → dval ((S.data.toList.take (k)).drop 1) < 1000000 := by
    intro k hk
    have h1 := dval_lt ((S.data.toList.take (k)).drop 1) (by
      intro c hc
      obtain ⟨j, hj, rfl⟩ := List.getElem_of_mem hc
      simp only [List.length_drop, List.length_take, size_list] at hj
      simp only [List.getElem_drop, List.getElem_take]
      have h3 := hbytes (1 + j) (by omega) (by omega)
      rw [get_list] at h3
      exact h3)
    have h2 : (10 : Nat) ^ ((S.data.toList.take (k)).drop 1).length ≤ 10 ^ 6 := Nat.pow_le_pow_right (by omega) (by simp only [List.length_drop, List.length_take, size_list]; omega)
    omega
  have HB := Lib.hid hbytes
  have HV := Lib.hid hval
  have HBD := Lib.hid hbd
  have HD := Lib.hid hdata
  have HSZ := Lib.hid hsz
  clear hbytes hval hbd hdata hsz hS hT hfirst q1 q2
  go_wp2_with fail
  go_loop [10, 11] (fun n i => ∃ k : Nat, k ≤ S.size ∧ i = .int .i64 k ∧ n = .int .i64 (dval ((S.data.toList.take (k)).drop 1) : Nat)) (fun _ i => S.size - (intOf i).toNat)
  case atStart => exact ⟨0, Nat.zero_le _, rfl, rfl⟩
  case round =>
    obtain ⟨k, hk, rfl, rfl⟩ := hrel
    have hbk := HBD.out k hk
    by_cases hlt : k < S.size
    · by_cases hk0 : k = 0
      · subst hk0
        go_wp2_with fail
        go_round
        case rel => exact ⟨1, by omega, rfl, by simp [dval]⟩
        case measure => simp [intOf]; omega
      · have h48 : (48 : Int) ≤ (S[k].toNat : Int) := by have := HB.out k hlt (by omega); omega
        have h57 : (S[k].toNat : Int) ≤ 57 := by have := HB.out k hlt (by omega); omega
        have h45 : ((S[k].toNat : Int) == 45) = false := by rw [beq_eq_false_iff_ne]; omega
        have HN : Hid (dval ((S.data.toList.take (k + 1)).drop 1) = 10 * dval ((S.data.toList.take (k)).drop 1) + (S[k].toNat - 48)) := Lib.hid (by
          rw [take_one_more S k hlt, List.drop_append_of_le_length (by simp only [List.length_take, size_list]; omega), dval_snoc])
        obtain ⟨d, hd⟩ : ∃ d : Nat, dval ((S.data.toList.take (k)).drop 1) = d := ⟨_, rfl⟩
        rw [hd] at hbk HN ⊢
        clear hd
        go_wp2_with fail
        go_round
        case rel => exact ⟨k + 1, by omega, by go_num, by rw [HN.out]; go_num⟩
        case measure => simp [intOf]; omega
    · have hks : k = S.size := by omega
      have hfin : ((dval ((S.data.toList.take (k)).drop 1) : Nat) : Int) = -((sg a)) := by
        rw [List.take_of_length_le (by rw [size_list]; omega)]; exact HV.out
      rw [hfin]
      clear hfin hbk hks
      go_wp2_with fail
      refine (Of_is (sg a) a (by omega) (by omega) HM.out _).mono ?_
      rintro e w3 ⟨rfl, rfl⟩
      go_wp2_with fail
      refine (Int_any a a0 a1 _).mono ?_
      rintro e w4 ⟨rfl, rfl⟩
      go_wp2_with fail
      refine (alive_any _ HT2.out).mono ?_
      rintro e w5 ⟨rfl, q5⟩
      have qz := bt q q5
      go_wp2_with fail
      go_ret
      exact ⟨rfl, qz⟩

theorem texts_any (a b : Int) (s : Bool) (a0 : 0 ≤ a) (a1 : a ≤ 65535) (b0 : 0 ≤ b) (b1 : b ≤ 65535) (w : World) (htab : Lib.TabIs Tryd.prog w "internal/strconv.uint64pow10" .u64 Lib.pow10Tab) :
    Calls Tryd.prog 8 #[.int .u16 a, .int .u16 b, .bool s] w fun e w' => e = .returned (.bool true) ∧ Below w.heap.size w w' := by
  cases s
  · exact texts_u a b a0 a1 b0 b1 w htab
  · by_cases h : sg a < 0
    · exact texts_n a b a0 a1 b0 b1 h w htab
    · exact texts_p a b a0 a1 b0 b1 (by omega) w htab
end Go.Proofs.YtgghdllbegkioaaDoor
