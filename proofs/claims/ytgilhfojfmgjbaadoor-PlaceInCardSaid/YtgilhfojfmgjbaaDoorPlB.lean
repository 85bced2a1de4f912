/- The document's answers of layer 3, walked: Behind. -/
import Derived.Test.YtgilhfojfmgjbaaDoorPlM
namespace Go.Proofs.YtgilhfojfmgjbaaDoor
open Go.RowKit
set_option maxHeartbeats 400000
set_option maxRecDepth 100000
set_option linter.unusedVariables false

theorem byte_drop (s : ByteArray) (k : Nat) (h : k < s.size) : s.data.toList.drop k = s[k] :: s.data.toList.drop (k + 1) := by
  have h2 : k < s.data.toList.length := by rw [Array.length_toList]; exact h
  rw [List.drop_eq_getElem_cons h2]
  congr 1
theorem byte_ten (b : UInt8) : ((b.toNat : Int) == 10) = decide (b = 10) := by
  by_cases h : b = 10
  · subst h; decide
  · have : ¬ ((b.toNat : Int) = 10) := fun e => h (by apply UInt8.toNat_inj.1; show b.toNat = 10; omega)
    rw [decide_eq_false h, beq_eq_false_iff_ne.2 this]
theorem size_set (w : World) (a : Addr) (v : Value) : (w.setCell a v).heap.size = w.heap.size := by simp

theorem rBehind_any (l c : Int) (s : ByteArray) (hs : s.size ≤ 1048576) (w : World) :
    Calls Tryd.prog 18 #[.agg #[.int .i64 l, .int .i64 c], .string s] w fun e w' => e = .returned (plV (goB l c s.data.toList).1 (goB l c s.data.toList).2) ∧ Below w.heap.size w w' := by
  have T0 : Hid (Two ((w.alloc (.cells #[.int .i64 l, .int .i64 c] 25)).alloc (.cells #[.int .i64 0, .int .i64 0] 25)) w.heap.size l c) :=
    Lib.hid ((Two.new w l c _ _ rfl).alloc _ (by simp))
  have T1 : Hid (Two ((w.alloc (.cells #[.int .i64 l, .int .i64 c] 25)).alloc (.cells #[.int .i64 0, .int .i64 0] 25)) (w.heap.size + 1) 0 0) :=
    Lib.hid (Two.new _ 0 0 _ _ (by simp))
  go_enter Tryd.func18, Tryd.ntmps18
  go_wp2_with fail
  go_loopw [5] (fun i wr => ∃ (k : Nat) (l1 c1 : Int), k ≤ s.size ∧ i = .int .i64 k ∧ goB l c s.data.toList = goB l1 c1 (s.data.toList.drop k) ∧ Two wr w.heap.size l1 c1 ∧ Two wr (w.heap.size + 1) 0 0 ∧ Below w.heap.size w wr ∧ w.heap.size + 2 ≤ wr.heap.size)
    (fun i _ => s.size - (intOf i).toNat)
  case atStart => exact ⟨0, l, c, Nat.zero_le _, rfl, rfl, T0.out, T1.out, bt (below_new _ _) (below_new _ _), by simp⟩
  case round =>
    obtain ⟨k, l1, c1, hk, rfl, hgo, A0, A1, hnx, hsz⟩ := hrel
    have HG := Lib.hid hgo
    clear hgo
    clear T0 T1
    by_cases hlt : k < s.size
    · have h0 := A0.c0
      have h1 := A0.c1
      go_wp2_with fail
      refine (Is_any l1 c1 _).mono ?_
      rintro e w1 ⟨rfl, hb1⟩
      have D0 := A0.below hb1 (by omega)
      have D1 := A1.below hb1 (by omega)
      have hny := hnx.trans (hb1.mono hnx.size)
      clear A0 A1 h0 h1
      have hsz1 := hb1.size
      cases hp : isP l1 c1
      · have HT : Hid (goB l c s.data.toList = (0, 0)) := Lib.hid (by rw [HG.out]; exact goB_none l1 c1 _ hp)
        have h0 := D1.c0
        have h1 := D1.c1
        have f0 := D1.f0
        have f1 := D1.f1
        go_wp2_with fail
        have r0 := ((D1.set0 0).set1 0).c0
        have r1 := ((D1.set0 0).set1 0).c1
        refine bodyPost_ret (v := .agg #[.int .i64 0, .int .i64 0]) (by simp [results, Tryd.results18, go_sem, r0, r1]) rfl ?_
        exact ⟨by rw [HT.out]; rfl, (hny.setCell (by simp) _).setCell (by simp) _⟩
      · have h0 := D0.c0
        have h1 := D0.c1
        have f0 := D0.f0
        have f1 := D0.f1
        have HP := Lib.hid hp
        obtain ⟨p0, p1, p2, p3⟩ := (isP_iff l1 c1).1 hp
        have hd := byte_drop s k hlt
        obtain ⟨b, hb⟩ : ∃ b, s[k] = b := ⟨_, rfl⟩
        rw [hb] at hd
        have hbt := byte_ten b
        by_cases h10 : b = 10
        · rw [decide_eq_true h10] at hbt
          have HN : Hid (goB l c s.data.toList = goB (l1 + 1) 1 (s.data.toList.drop (k + 1))) := Lib.hid (by
            rw [HG.out, hd, goB_cons l1 c1 b _ hp]; unfold stepL stepC; rw [if_pos h10, if_pos h10])
          clear h10 hd
          go_wp2_with fail
          go_roundw
          case rel => exact ⟨k + 1, l1 + 1, 1, by omega, by simp, HN.out, (D0.set0 _).set1 _, (D1.other _ _ _ (by omega)).other _ _ _ (by omega), (hny.setCell (by simp) _).setCell (by simp) _, by simp; omega⟩
          case measure => simp [intOf]; omega
        · rw [decide_eq_false h10] at hbt
          have HN : Hid (goB l c s.data.toList = goB l1 (c1 + 1) (s.data.toList.drop (k + 1))) := Lib.hid (by
            rw [HG.out, hd, goB_cons l1 c1 b _ hp]; unfold stepL stepC; rw [if_neg h10, if_neg h10])
          clear h10 hd
          go_wp2_with fail
          go_roundw
          case rel => exact ⟨k + 1, l1, c1 + 1, by omega, by simp, HN.out, D0.set1 _, D1.other _ _ _ (by omega), hny.setCell (by simp) _, by simp; omega⟩
          case measure => simp [intOf]; omega
    · have hks : k = s.size := by omega
      subst hks
      have hdr : s.data.toList.drop s.size = [] := List.drop_eq_nil_of_le (by rw [Array.length_toList]; exact Nat.le_refl _)
      rw [hdr] at HG
      clear hdr
      have h0 := A0.c0
      have h1 := A0.c1
      go_wp2_with fail
      refine (Is_any l1 c1 _).mono ?_
      rintro e w1 ⟨rfl, hb1⟩
      have D0 := A0.below hb1 (by omega)
      have D1 := A1.below hb1 (by omega)
      have hny := hnx.trans (hb1.mono hnx.size)
      clear A0 A1 h0 h1
      have i0 := D0.c0
      have i1 := D0.c1
      have h0 := D1.c0
      have h1 := D1.c1
      have f0 := D1.f0
      have f1 := D1.f1
      cases hp : isP l1 c1
      · have HT : Hid (goB l c s.data.toList = (0, 0)) := Lib.hid (by rw [HG.out]; exact goB_none l1 c1 _ hp)
        go_wp2_with fail
        have r0 := ((D1.set0 0).set1 0).c0
        have r1 := ((D1.set0 0).set1 0).c1
        refine bodyPost_ret (v := .agg #[.int .i64 0, .int .i64 0]) (by simp [results, Tryd.results18, go_sem, r0, r1]) rfl ?_
        exact ⟨by rw [HT.out]; rfl, (hny.setCell (by simp) _).setCell (by simp) _⟩
      · have HT : Hid (goB l c s.data.toList = (l1, c1)) := Lib.hid (by rw [HG.out]; exact goB_nil l1 c1 hp)
        go_wp2_with fail
        have r0 := ((D1.set0 l1).set1 c1).c0
        have r1 := ((D1.set0 l1).set1 c1).c1
        refine bodyPost_ret (v := .agg #[.int .i64 l1, .int .i64 c1]) (by simp [results, Tryd.results18, go_sem, r0, r1]) rfl ?_
        exact ⟨by rw [HT.out]; rfl, (hny.setCell (by simp) _).setCell (by simp) _⟩
end Go.Proofs.YtgilhfojfmgjbaaDoor
