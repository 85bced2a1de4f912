/- The document's answers of layer 3, walked: In. -/
import Derived.Test.YtgilhfojfmgjbaaDoorPlB
import Derived.Deep.RegionWith
namespace Go.Proofs.YtgilhfojfmgjbaaDoor
open Go.RowKit
set_option maxHeartbeats 400000
set_option maxRecDepth 100000
set_option linter.unusedVariables false

/-- r is how many bytes of s stand ahead of (l, c), the first time; -1: it is nowhere. -/
def InIs (s : List UInt8) (l c r : Int) : Prop :=
  (∃ i : Nat, i ≤ s.length ∧ r = (i : Int) ∧ goB 1 1 (s.take i) = (l, c) ∧ ∀ j, j < i → goB 1 1 (s.take j) ≠ (l, c)) ∨ (r = -1 ∧ ∀ j, j ≤ s.length → goB 1 1 (s.take j) ≠ (l, c))

theorem wrap_i64 (n : Int) (h0 : -9223372036854775808 ≤ n) (h1 : n ≤ 9223372036854775807) : IntKind.i64.wrap n = n := by
  simp [IntKind.wrap, IntKind.bits, IntKind.signed]; split <;> omega
theorem extract_one (s : ByteArray) (k : Nat) (h : k < s.size) : (s.extract k (k + 1)).data.toList = [s[k]] := by
  have h2 : k < s.data.toList.length := by rw [Array.length_toList]; exact h
  rw [ByteArray.data_extract, Array.toList_extract, List.extract_eq_take_drop]
  rw [byte_drop s k h, show k + 1 - k = 0 + 1 by omega, List.take_succ_cons, List.take_zero]
theorem take_next1 (s : ByteArray) (k : Nat) (h : k < s.size) : s.data.toList.take (k + 1) = s.data.toList.take k ++ (s.extract k (k + 1)).data.toList := by
  have h2 : k < s.data.toList.length := by rw [Array.length_toList]; exact h
  rw [extract_one s k h, List.take_succ_eq_append_getElem h2]
  congr 1
theorem rBehind_to (l c l2 c2 : Int) (s : ByteArray) (hs : s.size ≤ 1048576) (hg : goB l c s.data.toList = (l2, c2)) (w : World) :
    Calls Tryd.prog 18 #[.agg #[.int .i64 l, .int .i64 c], .string s] w fun e w' => e = .returned (.agg #[.int .i64 l2, .int .i64 c2]) ∧ Below w.heap.size w w' := by
  have := rBehind_any l c s hs w
  rw [hg] at this
  exact this
theorem rIn_any (l c : Int) (s : ByteArray) (hs : s.size ≤ 1048576) (w : World) :
    Calls Tryd.prog 22 #[.string s, .agg #[.int .i64 l, .int .i64 c]] w fun e w' => ∃ r, e = .returned (.int .i64 r) ∧ InIs s.data.toList l c r ∧ Below w.heap.size w w' := by
  have T0 : Hid (Two ((w.alloc (.cells #[.int .i64 l, .int .i64 c] 25)).alloc (.cells #[.int .i64 1, .int .i64 1] 25)) w.heap.size l c) :=
    Lib.hid ((Two.new w l c _ _ rfl).alloc _ (by simp))
  have T1 : Hid (Two ((w.alloc (.cells #[.int .i64 l, .int .i64 c] 25)).alloc (.cells #[.int .i64 1, .int .i64 1] 25)) (w.heap.size + 1) 1 1) :=
    Lib.hid (Two.new _ 1 1 _ _ (by simp))
  go_enter Tryd.func22, Tryd.ntmps22
  go_wp2_with fail
  go_loopw [6] (fun i wr => ∃ (k : Nat) (l1 c1 : Int), k ≤ s.size + 1 ∧ i = .int .i64 k ∧ (k ≤ s.size → goB 1 1 (s.data.toList.take k) = (l1, c1)) ∧ (∀ j, j < k → goB 1 1 (s.data.toList.take j) ≠ (l, c)) ∧ Two wr w.heap.size l c ∧ Two wr (w.heap.size + 1) l1 c1 ∧ Below w.heap.size w wr ∧ w.heap.size + 2 ≤ wr.heap.size)
    (fun i _ => s.size + 1 - (intOf i).toNat)
  case atStart => exact ⟨0, 1, 1, Nat.zero_le _, rfl, fun _ => rfl, fun j hj => absurd hj (by omega), T0.out, T1.out, bt (below_new _ _) (below_new _ _), by simp⟩
  case round =>
    obtain ⟨k, l1, c1, hk, rfl, hgo, hno, A0, A1, hnx, hsz⟩ := hrel
    have HG := Lib.hid hgo
    have HN := Lib.hid hno
    clear hgo hno T0 T1
    have h0 := A0.c0
    have h1 := A0.c1
    have i0 := A1.c0
    have i1 := A1.c1
    have f0 := A1.f0
    have f1 := A1.f1
    by_cases hend : k = s.size + 1
    · subst hend
      go_wp2_with fail
      go_ret
      exact ⟨_, rfl, .inr ⟨rfl, fun j hj => HN.out j (by rw [Array.length_toList] at hj; have : s.data.size = s.size := rfl; omega)⟩, hnx⟩
    · by_cases heq : l1 = l ∧ c1 = c
      · obtain ⟨rfl, rfl⟩ := heq
        go_wp2_with fail
        go_ret
        exact ⟨_, rfl, .inl ⟨k, by rw [Array.length_toList]; have : s.data.size = s.size := rfl; omega, rfl, HG.out (by omega), HN.out⟩, hnx⟩
      · have hne : (l1 == l) = false ∨ ((l1 == l) = true ∧ (c1 == c) = false) := by
          by_cases h : l1 = l
          · subst h
            simp at heq
            exact .inr ⟨by simp, beq_eq_false_iff_ne.2 heq⟩
          · exact .inl (beq_eq_false_iff_ne.2 h)
        have hne2 : ∀ j, j < k + 1 → goB 1 1 (s.data.toList.take j) ≠ (l, c) := fun j hj => by
          by_cases hjk : j = k
          · subst hjk
            rw [HG.out (by omega)]
            intro h
            simp only [Prod.mk.injEq] at h
            exact heq h
          · exact HN.out j (by omega)
        have HN2 := Lib.hid hne2
        clear hne2
        by_cases hlast : k = s.size
        · subst hlast
          rcases hne with hne | ⟨hne, hne3⟩
          all_goals
            go_wp2_with fail
            go_roundw
            case rel => exact ⟨s.size + 1, l1, c1, by omega, by simp, fun h => absurd h (by omega), HN2.out, A0, A1, hnx, hsz⟩
            case measure => simp [intOf]
        · have hlt : k < s.size := by omega
          clear hend hlast
          have hw : IntKind.i64.wrap ((k : Int) + 1) = (k : Int) + 1 := wrap_i64 _ (by omega) (by omega)
          have hw1 : (0 : Int) ≤ (k : Int) := by omega
          have hw2 : (k : Int) ≤ (k : Int) + 1 := by omega
          have hw3 : (k : Int) + 1 ≤ (s.size : Int) := by omega
          have hw4 : ((k : Int) + 1).toNat = k + 1 := by omega
          obtain ⟨⟨l2, c2⟩, h2⟩ : ∃ q, goB l1 c1 (s.extract k (k + 1)).data.toList = q := ⟨_, rfl⟩
          have HX : Hid (goB 1 1 (s.data.toList.take (k + 1)) = (l2, c2)) := Lib.hid (by rw [take_next1 s k hlt, goB_append, HG.out (by omega)]; exact h2)
          have hx : (s.extract k (k + 1)).size ≤ 1048576 := by
            have h3 : (s.extract k (k + 1)).data.toList.length = 1 := by rw [extract_one s k hlt]; rfl
            rw [Array.length_toList] at h3
            have : (s.extract k (k + 1)).data.size = (s.extract k (k + 1)).size := rfl
            omega
          have hcall := Lib.hid (rBehind_to l1 c1 l2 c2 (s.extract k (k + 1)) hx h2)
          clear h2 hx
          rcases hne with hne | ⟨hne, hne3⟩
          all_goals
            go_wp2_with fail
            go_region_with (go_at_call 18; refine (hcall.out _).mono ?_; rintro e w1 ⟨rfl, hb1⟩; have D0 := A0.drew.below hb1 (by simp; omega); have D1 := A1.drew.below hb1 (by simp; omega); have g0 := D1.c0; have g1 := D1.c1; have e0 := D1.f0; have e1 := D1.f1)
            all_goals
              go_wp2_with fail
              have hq : wr.heap.size ≤ w1.heap.size := hb1.size
              have hny : Below w.heap.size w w1 := hnx.drew.trans (hb1.mono hnx.size)
              go_roundw
              case rel => exact ⟨k + 1, l2, c2, by omega, by simp, fun _ => HX.out, HN2.out, (D0.other _ _ _ (by omega)).other _ _ _ (by omega), (D1.set0 _).set1 _, (hny.setCell (by simp) _).setCell (by simp) _, by simp; omega⟩
              case measure => simp [intOf]; omega
end Go.Proofs.YtgilhfojfmgjbaaDoor
