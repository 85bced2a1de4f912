/- The document's answers of layer 4, walked: number, symbol, plain. -/
import Derived.Test.YtggembknccbpnaaGreatLyE
namespace Go.Proofs.YtggembknccbpnaaGreat
open Go.RowKit
set_option maxHeartbeats 1000000
set_option maxRecDepth 100000
set_option linter.unusedVariables false

/-- The facts that a walk of number asks. -/
structure NumF (s : ByteArray) (c : UInt8) : Prop where
  drop : (s.extract 0 (s.size - 1)).data.toList = s.data.toList.dropLast
  last : s.data.toList.getLast? = some c
  size : (s.extract 0 (s.size - 1)).size ≤ s.size
theorem num_facts (s : ByteArray) (h0 : s.size - 1 < s.size) : NumF s (s[s.size - 1]'h0) := by
  have hl := bytes_of s
  have hd : (s.extract 0 (s.size - 1)).data.toList = s.data.toList.dropLast := by
    rw [ByteArray.data_extract, Array.toList_extract, List.extract_eq_take_drop, List.drop_zero, List.dropLast_eq_take, hl]; rfl
  refine ⟨hd, ?_, ?_⟩
  · rw [List.getLast?_eq_getElem?, hl]
    exact byte_get s (s.size - 1) h0
  · have := congrArg List.length hd
    rw [List.length_dropLast, bytes_of, hl] at this
    omega
theorem number_any (s : ByteArray) (hs : s.size ≤ 1048576) (h0 : s.size - 1 < s.size) (hx : ∀ b ∈ s.data.toList.dropLast, isHx b = true) (hl : s[s.size - 1]'h0 = 72 ∨ ∀ b ∈ s.data.toList, isHx b = true) (w : World) :
    Calls Tryz.prog 43 #[.string s] w fun e w' => ∃ (k : Nat) (n : Int), e = .returned (.tuple #[.agg #[.int .u8 k, .complex .f64 0 0, .complex .f64 0 0, .string ⟨#[]⟩, .int .i64 n], .bool (num s.data.toList).isSome]) ∧ (∀ t, num s.data.toList = some t → t = ⟨k, [], n⟩) ∧ Below w.heap.size w w' := by
  have hx1 : (0 : Int) ≤ (s.size : Int) - 1 := by omega
  have hx2 : (s.size : Int) - 1 ≤ (s.size : Int) := by omega
  have hx3 : ((s.size : Int) - 1).toNat = s.size - 1 := by omega
  have hx4 : (s.size : Int) - 1 < (s.size : Int) := by omega
  have hsc := fun w a x y m => store_cx (P := Tryz.prog) w a .f64 x y m
  obtain ⟨fd, fl, fz⟩ := num_facts s h0
  obtain ⟨c, hc⟩ : ∃ c, s[s.size - 1]'h0 = c := ⟨_, rfl⟩
  rw [hc] at fl hl
  have H16 := fun w => value_any (s.extract 0 (s.size - 1)) (by omega) (by rw [fd]; exact hx) 16 65535 (by omega) (by omega) (by omega) (by omega) w
  have H8 := fun w => value_any (s.extract 0 (s.size - 1)) (by omega) (by rw [fd]; exact hx) 8 65535 (by omega) (by omega) (by omega) (by omega) w
  have H8c := fun w => value_any (s.extract 0 (s.size - 1)) (by omega) (by rw [fd]; exact hx) 8 255 (by omega) (by omega) (by omega) (by omega) w
  rw [fd] at H16 H8 H8c
  have HU : Hid (num s.data.toList = (if some c = some (72 : UInt8) then (valS 16 65535 s.data.toList.dropLast).map (fun n => (⟨2, [], n⟩ : T0)) else match valS 10 65535 s.data.toList with
    | some n => some ⟨2, [], n⟩
    | none => if some c = some (66 : UInt8) then (valS 8 65535 s.data.toList.dropLast).map (fun n => (⟨2, [], n⟩ : T0)) else if some c = some (67 : UInt8) then (valS 8 255 s.data.toList.dropLast).map (fun n => (⟨3, [], n⟩ : T0)) else none)) := Lib.hid (by unfold num; rw [fl]; cases valS 10 65535 s.data.toList <;> rfl)
  clear fd fl fz hx
  by_cases h72 : c = 72
  · have HN : Hid ((num s.data.toList).isSome = (valS 16 65535 s.data.toList.dropLast).isSome ∧ ∀ n, (∀ v, valS 16 65535 s.data.toList.dropLast = some v → n = v) → ∀ t, num s.data.toList = some t → t = ⟨2, [], n⟩) := Lib.hid (by
      rw [HU.out, if_pos (by rw [h72])]
      cases hv : valS 16 65535 s.data.toList.dropLast with
      | none => exact ⟨rfl, fun n _ t ht => by cases ht⟩
      | some v => exact ⟨rfl, fun n hn t ht => by rw [hn v rfl]; injection ht with ht; exact ht.symm⟩)
    rw [h72] at hc
    generalize valS 16 65535 s.data.toList.dropLast = q at H16 HN
    generalize q.isSome = z at H16 HN
    clear HU H8 H8c hl h72
    go_enter Tryz.func43, Tryz.ntmps43
    go_wp2_with fail
    refine (H16 _).mono ?_
    rintro e w1 ⟨n, rfl, hn, rfl⟩
    have HQ := Lib.hid hn
    clear hn
    go_wp2_with fail
    refine bodyPost_ret (v := .tuple #[.agg #[.int .u8 2, .complex .f64 0 0, .complex .f64 0 0, .string ⟨#[]⟩, .int .i64 n], .bool z]) (by simp [results, Tryz.results43, go_sem]) rfl ?_
    exact ⟨2, n, by rw [HN.out.1]; rfl, HN.out.2 n HQ.out, below_new _ _⟩
  · have t72 : ((c.toNat : Int) == 72) = false := byte_no c 72 h72
    have hall := hl.resolve_left h72
    have H10 := fun w => value_any s hs hall 10 65535 (by omega) (by omega) (by omega) (by omega) w
    cases hv : valS 10 65535 s.data.toList with
    | some v =>
      have HN : Hid ((num s.data.toList).isSome = true ∧ ∀ t, num s.data.toList = some t → t = ⟨2, [], v⟩) := Lib.hid (by
        rw [HU.out, if_neg (fun e => h72 (Option.some.inj e)), hv]
        exact ⟨rfl, fun t ht => by injection ht with ht; exact ht.symm⟩)
      rw [hv] at H10
      clear HU H8 H8c H16 hl h72 hv hall
      go_enter Tryz.func43, Tryz.ntmps43
      go_wp2_with fail
      refine (H10 _).mono ?_
      rintro e w1 ⟨n, rfl, hn, rfl⟩
      obtain rfl := hn v rfl
      clear hn
      go_wp2_with fail
      refine bodyPost_ret (v := .tuple #[.agg #[.int .u8 2, .complex .f64 0 0, .complex .f64 0 0, .string ⟨#[]⟩, .int .i64 n], .bool true]) (by simp [results, Tryz.results43, go_sem]) rfl ?_
      exact ⟨2, n, by rw [HN.out.1]; rfl, HN.out.2, below_new _ _⟩
    | none =>
      have HU2 : Hid (num s.data.toList = (if some c = some (66 : UInt8) then (valS 8 65535 s.data.toList.dropLast).map (fun n => (⟨2, [], n⟩ : T0)) else if some c = some (67 : UInt8) then (valS 8 255 s.data.toList.dropLast).map (fun n => (⟨3, [], n⟩ : T0)) else none)) := Lib.hid (by
        rw [HU.out, if_neg (fun e => h72 (Option.some.inj e)), hv])
      rw [hv] at H10
      clear HU H16 hl hv hall
      by_cases h66 : c = 66
      · have HN : Hid ((num s.data.toList).isSome = (valS 8 65535 s.data.toList.dropLast).isSome ∧ ∀ n, (∀ v, valS 8 65535 s.data.toList.dropLast = some v → n = v) → ∀ t, num s.data.toList = some t → t = ⟨2, [], n⟩) := Lib.hid (by
          rw [HU2.out, if_pos (by rw [h66])]
          cases hv : valS 8 65535 s.data.toList.dropLast with
          | none => exact ⟨rfl, fun n _ t ht => by cases ht⟩
          | some v => exact ⟨rfl, fun n hn t ht => by rw [hn v rfl]; injection ht with ht; exact ht.symm⟩)
        rw [h66] at hc
        generalize valS 8 65535 s.data.toList.dropLast = q at H8 HN
        generalize q.isSome = z at H8 HN
        clear HU2 H8c h72 h66 t72
        go_enter Tryz.func43, Tryz.ntmps43
        go_wp2_with fail
        refine (H10 _).mono ?_
        rintro e w1 ⟨n10, rfl, hn10, rfl⟩
        clear hn10
        go_wp2_with fail
        refine (H8 _).mono ?_
        rintro e w1 ⟨n, rfl, hn, rfl⟩
        have HQ := Lib.hid hn
        clear hn
        go_wp2_with fail
        refine bodyPost_ret (v := .tuple #[.agg #[.int .u8 2, .complex .f64 0 0, .complex .f64 0 0, .string ⟨#[]⟩, .int .i64 n], .bool z]) (by simp [results, Tryz.results43, go_sem]) rfl ?_
        exact ⟨2, n, by rw [HN.out.1]; rfl, HN.out.2 n HQ.out, below_new _ _⟩
      · have t66 : ((c.toNat : Int) == 66) = false := byte_no c 66 h66
        by_cases h67 : c = 67
        · have HN : Hid ((num s.data.toList).isSome = (valS 8 255 s.data.toList.dropLast).isSome ∧ ∀ n, (∀ v, valS 8 255 s.data.toList.dropLast = some v → n = v) → ∀ t, num s.data.toList = some t → t = ⟨3, [], n⟩) := Lib.hid (by
            rw [HU2.out, if_neg (fun e => h66 (Option.some.inj e)), if_pos (by rw [h67])]
            cases hv : valS 8 255 s.data.toList.dropLast with
            | none => exact ⟨rfl, fun n _ t ht => by cases ht⟩
            | some v => exact ⟨rfl, fun n hn t ht => by rw [hn v rfl]; injection ht with ht; exact ht.symm⟩)
          rw [h67] at hc
          generalize valS 8 255 s.data.toList.dropLast = q at H8c HN
          generalize q.isSome = z at H8c HN
          clear HU2 H8 h72 h66 h67 t72 t66
          go_enter Tryz.func43, Tryz.ntmps43
          go_wp2_with fail
          refine (H10 _).mono ?_
          rintro e w1 ⟨n10, rfl, hn10, rfl⟩
          clear hn10
          go_wp2_with fail
          refine (H8c _).mono ?_
          rintro e w1 ⟨n, rfl, hn, rfl⟩
          have HQ := Lib.hid hn
          clear hn
          go_wp2_with fail
          refine bodyPost_ret (v := .tuple #[.agg #[.int .u8 3, .complex .f64 0 0, .complex .f64 0 0, .string ⟨#[]⟩, .int .i64 n], .bool z]) (by simp [results, Tryz.results43, go_sem]) rfl ?_
          exact ⟨3, n, by rw [HN.out.1]; rfl, HN.out.2 n HQ.out, below_new _ _⟩
        · have t67 : ((c.toNat : Int) == 67) = false := byte_no c 67 h67
          have HN : Hid (num s.data.toList = none) := Lib.hid (by
            rw [HU2.out, if_neg (fun e => h66 (Option.some.inj e)), if_neg (fun e => h67 (Option.some.inj e))])
          clear HU2 H8 H8c h72 h66 h67
          go_enter Tryz.func43, Tryz.ntmps43
          go_wp2_with fail
          refine (H10 _).mono ?_
          rintro e w1 ⟨n10, rfl, hn10, rfl⟩
          clear hn10
          go_wp2_with fail
          refine bodyPost_ret (v := .tuple #[.agg #[.int .u8 0, .complex .f64 0 0, .complex .f64 0 0, .string ⟨#[]⟩, .int .i64 0], .bool false]) (by simp [results, Tryz.results43, go_sem]) rfl ?_
          exact ⟨0, 0, by rw [HN.out]; rfl, fun t ht => (by rw [HN.out] at ht; cases ht), below_new _ _⟩
end Go.Proofs.YtggembknccbpnaaGreat
