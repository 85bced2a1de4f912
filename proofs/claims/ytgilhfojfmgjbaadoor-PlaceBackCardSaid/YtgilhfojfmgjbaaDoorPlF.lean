/- The document's answers of layer 3, walked: Read. -/
import Derived.Test.YtgilhfojfmgjbaaDoorPlE
import Derived.Deep.DeepCutAuto
import Derived.Deep.RegionHeld3
namespace Go.Proofs.YtgilhfojfmgjbaaDoor
open Go.RowKit
set_option maxHeartbeats 4000000
set_option maxRecDepth 100000
set_option linter.unusedVariables false

def okP (l c : Int) : Int × Int := if isP l c then (l, c) else (0, 0)
/-- The place that a text is, behind the bytes of pre, which hold no colon. -/
def readGo (pre : List UInt8) : List UInt8 → Int × Int
  | [] => (0, 0)
  | b :: r => if b = 58 then okP (numR true 0 pre) (numR true 0 r) else readGo (pre ++ [b]) r
theorem byte_colon (b : UInt8) : ((b.toNat : Int) == 58) = decide (b = 58) := by
  by_cases h : b = 58
  · subst h; decide
  · have : ¬ ((b.toNat : Int) = 58) := fun e => h (by apply UInt8.toNat_inj.1; show b.toNat = 58; omega)
    rw [decide_eq_false h, beq_eq_false_iff_ne.2 this]
theorem extract_take (s : ByteArray) (k : Nat) (h : k ≤ s.size) : (s.extract 0 k).data.toList = s.data.toList.take k := by
  rw [ByteArray.data_extract, Array.toList_extract, List.extract_eq_take_drop]; simp
theorem extract_drop (s : ByteArray) (k : Nat) (h : k ≤ s.size) : (s.extract k s.size).data.toList = s.data.toList.drop k := by
  rw [ByteArray.data_extract, Array.toList_extract, List.extract_eq_take_drop]
  rw [List.take_of_length_le]
  rw [List.length_drop, Array.length_toList]
  exact Nat.le_refl _
theorem size_le_of (s t : ByteArray) (h : t.data.toList.length ≤ s.data.toList.length) : t.size ≤ s.size := by
  rw [Array.length_toList, Array.length_toList] at h; exact h

theorem rRead_any (s : ByteArray) (hs : s.size ≤ 1048576) (w : World) :
    Calls Tryd.prog 24 #[.string s] w fun e w' => e = .returned (plV (readGo [] s.data.toList).1 (readGo [] s.data.toList).2) ∧ Below w.heap.size w w' := by
  have T1 : Hid (Two (w.alloc (.cells #[.int .i64 0, .int .i64 0] 25)) w.heap.size 0 0) := Lib.hid (Two.new _ 0 0 _ _ rfl)
  go_enter Tryd.func24, Tryd.ntmps24
  go_wp2_with fail
  go_loopw [3] (fun i wr => ∃ k : Nat, k ≤ s.size ∧ i = .int .i64 k ∧ readGo [] s.data.toList = readGo (s.data.toList.take k) (s.data.toList.drop k) ∧ Two wr w.heap.size 0 0 ∧ Below w.heap.size w wr ∧ w.heap.size + 1 ≤ wr.heap.size)
    (fun i _ => s.size - (intOf i).toNat)
  case atStart => exact ⟨0, Nat.zero_le _, rfl, rfl, T1.out, below_new _ _, by simp⟩
  case round =>
    obtain ⟨k, hk, rfl, hgo, A1, hnx, hsz⟩ := hrel
    have HG := Lib.hid hgo
    clear hgo T1
    have i0 := A1.c0
    have i1 := A1.c1
    have f0 := A1.f0
    have f1 := A1.f1
    by_cases hlt : k < s.size
    · have hd := byte_drop s k hlt
      have htk := take_next1 s k hlt
      rw [extract_one s k hlt] at htk
      obtain ⟨b, hb⟩ : ∃ b, s[k] = b := ⟨_, rfl⟩
      rw [hb] at hd htk
      have hbt := byte_colon b
      by_cases hcol : b = 58
      · rw [decide_eq_true hcol] at hbt
        have hsx : (s.extract 0 k).size ≤ s.size := size_le_of _ _ (by rw [extract_take s k hk, List.length_take]; omega)
        have hsy : (s.extract (k + 1) s.size).size ≤ s.size := size_le_of _ _ (by rw [extract_drop s (k + 1) hlt, List.length_drop]; omega)
        have HR : Hid (readGo [] s.data.toList = okP (numR true 0 (s.extract 0 k).data.toList) (numR true 0 (s.extract (k + 1) s.size).data.toList)) := Lib.hid (by
          rw [HG.out, hd, readGo, if_pos hcol, extract_take s k hk, extract_drop s (k + 1) hlt])
        clear hd htk hcol
        obtain ⟨l, hl⟩ : ∃ l, numR true 0 (List.take k s.data.toList) = l := ⟨_, rfl⟩
        obtain ⟨c, hc⟩ : ∃ c, numR true 0 (List.take (s.size - (k + 1)) (List.drop (k + 1) s.data.toList)) = c := ⟨_, rfl⟩
        have HR2 : Hid (readGo [] s.data.toList = okP l c) := Lib.hid (by
          rw [HR.out, ← hl, ← hc, extract_take s k hk, extract_drop s (k + 1) hlt, List.take_of_length_le (l := List.drop (k + 1) s.data.toList) (by rw [List.length_drop, Array.length_toList]; exact Nat.le_refl _)])
        have hw : IntKind.i64.wrap ((k : Int) + 1) = (k : Int) + 1 := wrap_i64 _ (by omega) (by omega)
        have hw1 : (0 : Int) ≤ (k : Int) := by omega
        have hw2 : (k : Int) ≤ (k : Int) + 1 := by omega
        have hw3 : (k : Int) + 1 ≤ (s.size : Int) := by omega
        have hw4 : ((k : Int) + 1).toNat = k + 1 := by omega
        have hw5 : (k : Int) ≤ (s.size : Int) := by omega
        have hw6 : (0 : Int) ≤ (k : Int) + 1 := by omega
        go_upto_region 5 with fail
        go_cut [4] (fun v wx => v = .pointer (some ⟨wr.heap.size, 0, none⟩) ∧ wx = (wr.alloc (.cells #[.int .i64 l, .int .i64 c] 25)).drew)
        case first =>
          go_region_held3 (fun _ => True) (first | trivial) (first | (go_at_call 31; refine (rNumber_any _ (by omega) _).mono ?_; rintro e w1 ⟨rfl, rfl⟩))
          all_goals
            go_wp2_with fail
            go_meet
            exact ⟨rfl, rfl⟩
        case rest =>
          obtain ⟨rfl, rfl⟩ := hcut
          clear hl hc HR hsx hsy
          have E0 : Two (wr.alloc (.cells #[.int .i64 l, .int .i64 c] 25)).drew wr.heap.size l c := (Two.new wr l c _ _ rfl).drew
          have E1 : Two (wr.alloc (.cells #[.int .i64 l, .int .i64 c] 25)).drew w.heap.size 0 0 := (A1.alloc _ (by omega)).drew
          have hnz : Below w.heap.size w (wr.alloc (.cells #[.int .i64 l, .int .i64 c] 25)).drew := (hnx.alloc hnx.size _).drew
          have hsz2 : wr.heap.size < (wr.alloc (.cells #[.int .i64 l, .int .i64 c] 25)).drew.heap.size := by simp
          go_wp2_with fail
          refine (Is_any l c _).mono ?_
          rintro e w1 ⟨rfl, hb1⟩
          have D0 := E0.below hb1 hsz2
          have D1 := E1.below hb1 (by omega)
          have hny := hnz.trans (hb1.mono (by omega))
          have g0 := D0.c0
          have g1 := D0.c1
          have g2 := D1.c0
          have g3 := D1.c1
          have e0 := D1.f0
          have e1 := D1.f1
          cases hp : isP l c
          · have HT : Hid (readGo [] s.data.toList = (0, 0)) := Lib.hid (by rw [HR2.out]; unfold okP; rw [hp]; rfl)
            go_wp2_with fail
            have r0 := ((D1.set0 0).set1 0).c0
            have r1 := ((D1.set0 0).set1 0).c1
            refine bodyPost_ret (v := .agg #[.int .i64 0, .int .i64 0]) (by simp [results, Tryd.results24, go_sem, r0, r1]) rfl ?_
            exact ⟨by rw [HT.out]; rfl, (hny.setCell (by simp) _).setCell (by simp) _⟩
          · have HT : Hid (readGo [] s.data.toList = (l, c)) := Lib.hid (by rw [HR2.out]; unfold okP; rw [hp]; rfl)
            go_wp2_with fail
            have r0 := ((D1.set0 l).set1 c).c0
            have r1 := ((D1.set0 l).set1 c).c1
            refine bodyPost_ret (v := .agg #[.int .i64 l, .int .i64 c]) (by simp [results, Tryd.results24, go_sem, r0, r1]) rfl ?_
            exact ⟨by rw [HT.out]; rfl, (hny.setCell (by simp) _).setCell (by simp) _⟩
      · rw [decide_eq_false hcol] at hbt
        have HN : Hid (readGo [] s.data.toList = readGo (s.data.toList.take (k + 1)) (s.data.toList.drop (k + 1))) := Lib.hid (by
          rw [HG.out, hd, readGo, if_neg hcol, htk])
        clear hd htk hcol
        go_wp2_with fail
        go_roundw
        case rel => exact ⟨k + 1, by omega, by simp, HN.out, A1, hnx, hsz⟩
        case measure => simp [intOf]; omega
    · have hks : k = s.size := by omega
      subst hks
      have hdr : s.data.toList.drop s.size = [] := List.drop_eq_nil_of_le (by rw [Array.length_toList]; exact Nat.le_refl _)
      rw [hdr] at HG
      clear hdr
      have HT : Hid (readGo [] s.data.toList = (0, 0)) := Lib.hid (by rw [HG.out]; rfl)
      go_wp2_with fail
      have r0 := ((A1.set0 0).set1 0).c0
      have r1 := ((A1.set0 0).set1 0).c1
      refine bodyPost_ret (v := .agg #[.int .i64 0, .int .i64 0]) (by simp [results, Tryd.results24, go_sem, r0, r1]) rfl ?_
      exact ⟨by rw [HT.out]; rfl, (hnx.setCell (by simp) _).setCell (by simp) _⟩
end Go.Proofs.YtgilhfojfmgjbaaDoor
