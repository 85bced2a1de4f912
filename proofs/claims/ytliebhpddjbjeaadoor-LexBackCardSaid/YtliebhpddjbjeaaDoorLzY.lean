/- LexBack, walked. -/
import Derived.Test.YtliebhpddjbjeaaDoorLzX
import Derived.Test.YtliebhpddjbjeaaDoorLyW
namespace Go.Proofs.YtliebhpddjbjeaaDoor
open Go.RowKit
set_option maxHeartbeats 2000000
set_option maxRecDepth 100000
set_option linter.unusedVariables false

theorem back_big (s : ByteArray) (h : 4096 < s.size) (w : World) (hE : Env w) :
    Calls Tryd.prog 3 #[.string s] w fun e w' => e = .returned (.bool true) ∧ Below w.heap.size w w' := by
  have hq : (4096 : Int) < (s.size : Int) := by omega
  have HW := zworks_any w hE
  clear hE
  go_enter Tryd.func3, Tryd.ntmps3
  go_wp2_with fail
  refine HW.mono ?_
  rintro e w1 ⟨rfl, B1⟩
  go_wp2_with fail
  go_ret
  exact ⟨rfl, B1⟩
theorem back_err (s : ByteArray) (h : s.size ≤ 4096) (x y : Nat) (z : Int) (hz : z ≠ 0) (w : World) (hE : Env w)
    (H1 : Calls Tryd.prog 5 #[.string s] w fun e w' => e = .returned (.tuple #[.slice none 0 0, .complex .f64 x y, .int .i64 z]) ∧ Below w.heap.size w w') :
    Calls Tryd.prog 3 #[.string s] w fun e w' => e = .returned (.bool true) ∧ Below w.heap.size w w' := by
  have hq : ¬ (4096 : Int) < (s.size : Int) := by omega
  have hz1 : (z != 0) = true := bne_iff_ne.2 hz
  have HW := fun w' hb => zworks_any w' (hE.below hb)
  clear hE hz
  go_enter Tryd.func3, Tryd.ntmps3
  go_wp2_with fail
  refine H1.mono ?_
  rintro e w1 ⟨rfl, B1⟩
  have HW1 := HW w1 B1
  clear H1 HW
  go_wp2_with fail
  refine HW1.mono ?_
  rintro e w2 ⟨rfl, B2⟩
  go_wp2_with fail
  go_ret
  exact ⟨rfl, bt B1 B2⟩
theorem alike_same (S S' : List UInt8) (L L' : List (T0 × Nat × Nat)) (o o' : Nat) (h : L'.map (·.1) = L.map (·.1)) : alikeL (L.map (plOf S) ++ [endT S o]) (L'.map (plOf S') ++ [endT S' o']) = true := by
  have hm : (L.map (plOf S) ++ [endT S o]).map (·.1) = (L'.map (plOf S') ++ [endT S' o']).map (·.1) := by rw [all_map, all_map, h]
  refine alike_all _ _ (by have := congrArg List.length hm; simpa using this) fun i a b ha hb => ?_
  have h1 := congrArg (fun l => l[i]?) hm
  simp only [List.getElem?_map] at h1
  rw [ha, hb] at h1
  have h2 : a.1 = b.1 := by simpa using h1
  rw [h2]
  simp [tokEq]
theorem back_ok (s : ByteArray) (h : s.size ≤ 4096) (t : ByteArray) (A B : List TK) (hA : A.length ≤ 1048576) (hAB : alikeL A B = true) (w : World) (hE : Env w)
    (H1 : Calls Tryd.prog 5 #[.string s] w fun e w' => ∃ v, e = .returned (.tuple #[v, .complex .f64 0 0, .int .i64 0]) ∧ Below w.heap.size w w' ∧ OwnT w' w.heap.size v A)
    (H2 : ∀ w' v B0, Below w.heap.size w w' → OwnT w' B0 v A → Calls Tryd.prog 6 #[v] w' fun e w'' => e = .returned (.string t) ∧ Below w'.heap.size w' w'')
    (H3 : ∀ w', Below w.heap.size w w' → Calls Tryd.prog 5 #[.string t] w' fun e w'' => ∃ v, e = .returned (.tuple #[v, .complex .f64 0 0, .int .i64 0]) ∧ Below w'.heap.size w' w'' ∧ OwnT w'' w'.heap.size v B)
    (H4 : ∀ w' v B0, Below w.heap.size w w' → OwnT w' B0 v B → Calls Tryd.prog 6 #[v] w' fun e w'' => e = .returned (.string t) ∧ Below w'.heap.size w' w'') :
    Calls Tryd.prog 3 #[.string s] w fun e w' => e = .returned (.bool true) ∧ Below w.heap.size w w' := by
  have hq : ¬ (4096 : Int) < (s.size : Int) := by omega
  have HW := fun w' hb => zworks_any w' (hE.below hb)
  have hs : (t.toList == t.toList) = true := beq_self_eq_true _
  have HAB := Lib.hid hAB
  clear hE hAB
  go_enter Tryd.func3, Tryd.ntmps3
  go_wp2_with fail
  refine H1.mono ?_
  rintro e w1 ⟨v1, rfl, B1, O1⟩
  have HJ := H2 w1 v1 _ B1 O1
  clear H1 H2
  go_wp2_with fail
  refine HJ.mono ?_
  rintro e w2 ⟨rfl, B2⟩
  have b2 := bt B1 B2
  have HS := H3 w2 b2
  clear HJ H3
  go_wp2_with fail
  refine HS.mono ?_
  rintro e w3 ⟨v3, rfl, B3, O3⟩
  have b3 := bt b2 B3
  have HAl := Alike_any A B hA v1 v3 w3 _ _ ((O1.below B2).below B3) O3
  rw [HAB.out] at HAl
  clear HS
  go_wp2_with fail
  refine HAl.mono ?_
  rintro e w4 ⟨rfl, B4⟩
  have b4 := bt b3 B4
  have HJ := H4 w4 v3 _ b4 (O3.below B4)
  clear HAl H4
  go_wp2_with fail
  refine HJ.mono ?_
  rintro e w5 ⟨rfl, B5⟩
  have b5 := bt b4 B5
  have HW5 := HW w5 b5
  clear HJ HW
  go_wp2_with fail
  refine HW5.mono ?_
  rintro e w6 ⟨rfl, B6⟩
  go_wp2_with fail
  go_ret
  exact ⟨rfl, bt b5 B6⟩
theorem back_any (s : ByteArray) (w : World) (hE : Env w) :
    Calls Tryd.prog 3 #[.string s] w fun e w' => e = .returned (.bool true) ∧ Below w.heap.size w w' := by
  by_cases h1 : 4096 < s.size
  · exact back_big s h1 w hE
  obtain ⟨S, hS⟩ : ∃ S, s.data.toList = S := ⟨_, rfl⟩
  have hlen : S.length = s.size := by rw [← hS, Array.length_toList]; rfl
  obtain ⟨k1, k2, k3, k4, k5, k6, k7, k8⟩ := scan_ok _ S 0 (Nat.le_refl _)
  have hfit := scan_fits _ S 0 (Nat.le_refl _)
  have hcnt := scan_cnt _ S 0 (Nat.le_refl _)
  rcases hq : scanS 0 S with ⟨L, off, z⟩
  rw [hq] at k1 k7 hfit hcnt
  simp only at k1 k7 hfit hcnt
  by_cases hz : z = 0
  · subst hz
    have jb := join_back (L.map (·.1)) 0 (fun t ht => by obtain ⟨y, hy, rfl⟩ := List.mem_map.1 ht; exact k1 y hy)
    obtain ⟨T, hT⟩ : ∃ T, joinT (L.map (·.1)) = T := ⟨_, rfl⟩
    rw [hT] at jb k7
    obtain ⟨m1, _, _, _, _, _, _, _⟩ := scan_ok _ T 0 (Nat.le_refl _)
    have mfit := scan_fits _ T 0 (Nat.le_refl _)
    have mcnt := scan_cnt _ T 0 (Nat.le_refl _)
    rcases hq2 : scanS 0 T with ⟨L2, off2, z2⟩
    rw [hq2] at jb m1 mfit mcnt
    simp only at jb m1 mfit mcnt
    obtain ⟨jb1, rfl⟩ := jb
    refine back_ok s (by omega) ⟨T.toArray⟩ _ _ (by simp; omega) (alike_same S T L L2 off off2 jb1) w hE (scan_is_ok s (by omega) S L off hS hq w hE) (fun w' v B0 hb ho => ?_) (fun w' hb => ?_) (fun w' v B0 hb ho => ?_)
    · have := zjoin_scan S (by omega) L off k1 hfit hcnt v B0 w' (hE.below hb) ho
      rw [hT] at this; exact this
    · exact scan_is_ok ⟨T.toArray⟩ (by rw [size_of_lit]; omega) T L2 off2 (by simp) hq2 w' (hE.below hb)
    · have := zjoin_scan T (by omega) L2 off2 m1 mfit mcnt v B0 w' (hE.below hb) ho
      rw [jb1, hT] at this; exact this
  · have H1 := scan_is_err s (by omega) S L off z hz hS hq w hE
    obtain ⟨x, y, hxy⟩ := posV_two (goB 1 1 (S.take off)).1 (goB 1 1 (S.take off)).2
    rw [hxy] at H1
    exact back_err s (by omega) x y z hz w hE H1
end Go.Proofs.YtliebhpddjbjeaaDoor
