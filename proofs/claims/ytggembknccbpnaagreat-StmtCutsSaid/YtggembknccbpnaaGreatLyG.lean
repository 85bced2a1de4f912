/- The document's answers of layer 4, walked: symbol, plain. -/
import Derived.Test.YtggembknccbpnaaGreatLyF
import Derived.Test.YtggembknccbpnaaGreatLyD
namespace Go.Proofs.YtggembknccbpnaaGreat
open Go.RowKit
set_option maxHeartbeats 1000000
set_option maxRecDepth 100000
set_option linter.unusedVariables false

theorem syms2_cell (w : World) (k : Nat) (h : k < 5) : ∃ x, syms2[k]? = some x ∧ (w.alloc (.cells (syms2.map fun x => Value.string ⟨x.toArray⟩).toArray 9)).cell? ⟨w.heap.size, k, none⟩ = some (.string ⟨x.toArray⟩) := by
  have hl : k < syms2.length := h
  refine ⟨syms2[k], List.getElem?_eq_getElem hl, ?_⟩
  rw [World.cell?_alloc_at _ _ _ _ rfl]
  simp [List.getElem?_map, List.getElem?_eq_getElem hl]
theorem symbol_any (s : ByteArray) (hs : s.size ≤ 1048576) (h0 : 0 < s.size) (w : World) :
    Calls Tryz.prog 44 #[.string s] w fun e w' => e = .returned (.int .i64 ((symb s.data.toList : Nat) : Int)) ∧ Below w.heap.size w w' := by
  have HC := fun k hk => syms2_cell w k hk
  have hb0 := below_new w (.cells (syms2.map fun x => Value.string ⟨x.toArray⟩).toArray 9)
  obtain ⟨w1, hw⟩ : ∃ w1, w1 = w.alloc (.cells (syms2.map fun x => Value.string ⟨x.toArray⟩).toArray 9) := ⟨_, rfl⟩
  rw [← hw] at HC hb0
  have hw' : w.alloc (.cells #[.string ⟨#[58, 61]⟩, .string ⟨#[60, 62]⟩, .string ⟨#[60, 61]⟩, .string ⟨#[62, 61]⟩, .string ⟨#[46, 46]⟩] 9) = w1 := hw.symm
  clear hw
  go_enter Tryz.func44, Tryz.ntmps44
  go_wp2_with fail
  go_loopw [4] (fun i wr => ∃ k : Nat, k ≤ 5 ∧ i = .int .i64 k ∧ (∀ j, j < k → syms2[j]? ≠ some (s.data.toList.take 2)) ∧ Below w.heap.size w wr ∧ ∀ k, k < 5 → ∃ x, syms2[k]? = some x ∧ wr.cell? ⟨w.heap.size, k, none⟩ = some (.string ⟨x.toArray⟩))
    (fun i _ => 5 - (intOf i).toNat)
  case atStart => exact ⟨0, by omega, rfl, fun j hj => absurd hj (by omega), hb0, HC⟩
  case round =>
    clear HC hb0
    obtain ⟨k, hk, rfl, hno, hb0, HC⟩ := hrel
    have HN := Lib.hid hno
    clear hno hw'
    by_cases hlt : k < 5
    · obtain ⟨x, hx, hcell⟩ := HC k hlt
      have hx2 : Hid (x.length = 2) := Lib.hid (by
        have : ∀ j < 5, ∀ y, syms2[j]? = some y → y.length = 2 := by decide
        exact this k hlt x hx)
      by_cases hz : 2 ≤ s.size
      · have he1 : (s.extract 0 2).toList = s.data.toList.take 2 := by rw [ByteArray.toList_eq]; exact extract_take' s 2 hz
        have hq1 : (2 : Int) ≤ (s.size : Int) := by omega
        by_cases hxs : s.data.toList.take 2 = x
        · have ht : ((s.extract 0 2).toList == x) = true := by rw [he1]; exact beq_iff_eq.2 hxs
          have HT : Hid (symb s.data.toList = 2) := Lib.hid (by
            unfold symb
            rw [if_pos]
            refine List.contains_iff_mem.2 ?_
            rw [hxs]
            exact List.mem_of_getElem? hx)
          clear hxs hx HC he1
          go_wp2_with fail
          go_region
          all_goals
            go_wp2_with fail
            go_ret
            exact ⟨by rw [HT.out]; rfl, hb0.drew⟩
        · have ht : ((s.extract 0 2).toList == x) = false := by rw [he1]; exact beq_eq_false_iff_ne.2 hxs
          have HK : Hid (∀ j, j < k + 1 → syms2[j]? ≠ some (s.data.toList.take 2)) := Lib.hid (by
            intro j hj
            by_cases hjk : j = k
            · subst hjk; rw [hx]; intro e; injection e with e; exact hxs e.symm
            · exact HN.out j (by omega))
          have HCC := Lib.hid HC
          clear hxs hx HC he1
          go_wp2_with fail
          go_region
          all_goals
            go_wp2_with fail
            go_roundw
            case rel => exact ⟨k + 1, by omega, by simp, HK.out, hb0.drew, HCC.out⟩
            case measure => simp [intOf]; omega
      · have hq1 : decide ((2 : Int) ≤ (s.size : Int)) = false := decide_eq_false (by omega)
        have HK : Hid (∀ j, j < k + 1 → syms2[j]? ≠ some (s.data.toList.take 2)) := Lib.hid (by
          intro j hj
          by_cases hjk : j = k
          · subst hjk; rw [hx]; intro e; injection e with e
            have h3 := hx2.out
            rw [e, List.length_take, bytes_of] at h3; omega
          · exact HN.out j (by omega))
        have HCC := Lib.hid HC
        clear hx HC
        go_wp2_with fail
        go_region
        all_goals
          go_wp2_with fail
          go_roundw
          case rel => exact ⟨k + 1, by omega, by simp, HK.out, hb0.drew, HCC.out⟩
          case measure => simp [intOf]; omega
    · have hke : k = 5 := by omega
      subst hke
      have H2 : Hid (syms2.contains (s.data.toList.take 2) = false) := Lib.hid (by
        cases hq : syms2.contains (s.data.toList.take 2)
        · rfl
        · obtain ⟨j, hj, hje⟩ := List.getElem_of_mem (List.contains_iff_mem.1 hq)
          have hj5 : j < 5 := hj
          exact absurd (by rw [List.getElem?_eq_getElem hj, hje]) (HN.out j hj5))
      obtain ⟨r, hr⟩ := byte_cons s h0
      obtain ⟨c, hc⟩ : ∃ c, s[0] = c := ⟨_, rfl⟩
      rw [hc] at hr
      have HS : Hid (symb s.data.toList = if syms1.contains c then 1 else 0) := Lib.hid (by
        unfold symb
        rw [H2.out, if_neg (by decide), hr]; rfl)
      clear HC HN H2 hr
      go_wp2_with fail
      go_loopw [6] (fun i wx => ∃ k : Nat, k ≤ 22 ∧ i = .int .i64 k ∧ (∀ j, j < k → syms1[j]? ≠ some c) ∧ Below w.heap.size w wx)
        (fun i _ => 22 - (intOf i).toNat)
      case atStart => exact ⟨0, by omega, rfl, fun j hj => absurd hj (by omega), hb0⟩
      case round =>
        clear hb0
        obtain ⟨k, hk, rfl, hno, hb0⟩ := hrel
        have HN := Lib.hid hno
        clear hno
        by_cases hlt : k < 22
        · have hsz : k < (⟨#[43, 45, 42, 47, 126, 46, 44, 59, 40, 91, 123, 94, 61, 35, 60, 62, 58, 41, 93, 125, 124, 38]⟩ : ByteArray).size := hlt
          obtain ⟨b, hb⟩ : ∃ b, (⟨#[43, 45, 42, 47, 126, 46, 44, 59, 40, 91, 123, 94, 61, 35, 60, 62, 58, 41, 93, 125, 124, 38]⟩ : ByteArray)[k]'hsz = b := ⟨_, rfl⟩
          have hget : Hid (syms1[k]? = some b) := Lib.hid (by
            have := byte_get ⟨#[43, 45, 42, 47, 126, 46, 44, 59, 40, 91, 123, 94, 61, 35, 60, 62, 58, 41, 93, 125, 124, 38]⟩ k hsz
            rw [hb] at this
            exact this)
          have hbs := byte_same c b
          by_cases hcb : c = b
          · rw [decide_eq_true hcb] at hbs
            have HT : Hid (symb s.data.toList = 1) := Lib.hid (by
              rw [HS.out, if_pos]
              rw [hcb]
              exact List.contains_iff_mem.2 (List.mem_of_getElem? hget.out))
            clear hcb
            go_wp2_with fail
            go_region
            all_goals
              go_wp2_with fail
              go_ret
              exact ⟨by rw [HT.out]; rfl, hb0.drew⟩
          · rw [decide_eq_false hcb] at hbs
            have HK : Hid (∀ j, j < k + 1 → syms1[j]? ≠ some c) := Lib.hid (by
              intro j hj
              by_cases hjk : j = k
              · subst hjk; rw [hget.out]; intro e; injection e with e; exact hcb e.symm
              · exact HN.out j (by omega))
            clear hcb
            go_wp2_with fail
            go_region
            all_goals
              go_wp2_with fail
              go_roundw
              case rel => exact ⟨k + 1, by omega, by simp, HK.out, hb0.drew⟩
              case measure => simp [intOf]; omega
        · have hke : k = 22 := by omega
          subst hke
          have HT : Hid (symb s.data.toList = 0) := Lib.hid (by
            rw [HS.out, if_neg]
            intro hq
            obtain ⟨j, hj, hje⟩ := List.getElem_of_mem (List.contains_iff_mem.1 hq)
            have hj22 : j < 22 := hj
            exact absurd (by rw [List.getElem?_eq_getElem hj, hje]) (HN.out j hj22))
          go_wp2_with fail
          go_ret
          exact ⟨by rw [HT.out]; rfl, hb0⟩
theorem plain_any (s : ByteArray) (w : World) :
    Calls Tryz.prog 45 #[.string s] w fun e w' => e = .returned (tokV (plainT s.data.toList) (.complex .f64 0 0) (.complex .f64 0 0)) ∧ Below w.heap.size w w' := by
  have hsc := fun w a x y m => store_cx (P := Tryz.prog) w a .f64 x y m
  have hl : s.toList = s.data.toList := ByteArray.toList_eq s
  have hd : s = ⟨s.data.toList.toArray⟩ := by apply ByteArray.ext; simp
  have HU : Hid (plainT s.data.toList = if s.data.toList = [60, 62] then ⟨5, [35], 0⟩ else if s.data.toList = [38] then ⟨6, [65, 78, 68], 0⟩ else if s.data.toList = [126] then ⟨6, [78, 79, 84], 0⟩ else ⟨5, s.data.toList, 0⟩) := Lib.hid rfl
  generalize s.data.toList = u at hl hd HU ⊢
  by_cases h1 : u = [60, 62]
  · have HT : Hid (plainT u = ⟨5, [35], 0⟩) := Lib.hid (by rw [HU.out, if_pos h1])
    have t1 : (s.toList == [60, 62]) = true := by rw [hl]; exact beq_iff_eq.2 h1
    clear HU h1 hl hd
    go_enter Tryz.func45, Tryz.ntmps45
    go_wp2_with fail
    refine bodyPost_ret (v := tokV ⟨5, [35], 0⟩ (.complex .f64 0 0) (.complex .f64 0 0)) (by simp [results, Tryz.results45, go_sem, tokV]) rfl ?_
    exact ⟨by rw [HT.out], below_new _ _⟩
  · have t1 : (s.toList == [60, 62]) = false := by rw [hl]; exact beq_eq_false_iff_ne.2 h1
    by_cases h2 : u = [38]
    · have HT : Hid (plainT u = ⟨6, [65, 78, 68], 0⟩) := Lib.hid (by rw [HU.out, if_neg h1, if_pos h2])
      have t2 : (s.toList == [38]) = true := by rw [hl]; exact beq_iff_eq.2 h2
      clear HU h1 h2 hl hd
      go_enter Tryz.func45, Tryz.ntmps45
      go_wp2_with fail
      refine bodyPost_ret (v := tokV ⟨6, [65, 78, 68], 0⟩ (.complex .f64 0 0) (.complex .f64 0 0)) (by simp [results, Tryz.results45, go_sem, tokV]) rfl ?_
      exact ⟨by rw [HT.out], below_new _ _⟩
    · have t2 : (s.toList == [38]) = false := by rw [hl]; exact beq_eq_false_iff_ne.2 h2
      by_cases h3 : u = [126]
      · have HT : Hid (plainT u = ⟨6, [78, 79, 84], 0⟩) := Lib.hid (by rw [HU.out, if_neg h1, if_neg h2, if_pos h3])
        have t3 : (s.toList == [126]) = true := by rw [hl]; exact beq_iff_eq.2 h3
        clear HU h1 h2 h3 hl hd
        go_enter Tryz.func45, Tryz.ntmps45
        go_wp2_with fail
        refine bodyPost_ret (v := tokV ⟨6, [78, 79, 84], 0⟩ (.complex .f64 0 0) (.complex .f64 0 0)) (by simp [results, Tryz.results45, go_sem, tokV]) rfl ?_
        exact ⟨by rw [HT.out], below_new _ _⟩
      · have t3 : (s.toList == [126]) = false := by rw [hl]; exact beq_eq_false_iff_ne.2 h3
        have HT : Hid (plainT u = ⟨5, u, 0⟩) := Lib.hid (by rw [HU.out, if_neg h1, if_neg h2, if_neg h3])
        have HD := Lib.hid hd
        clear HU h1 h2 h3 hl hd
        go_enter Tryz.func45, Tryz.ntmps45
        go_wp2_with fail
        refine bodyPost_ret (v := .agg #[.int .u8 5, .complex .f64 0 0, .complex .f64 0 0, .string s, .int .i64 0]) (by simp [results, Tryz.results45, go_sem]) rfl ?_
        exact ⟨by rw [HT.out]; unfold tokV; rw [← HD.out]; rfl, below_new _ _⟩
end Go.Proofs.YtggembknccbpnaaGreat
