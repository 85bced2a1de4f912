/- The lists of a set's elements, walked: bits.All and the document's; a list that is owned is read; two lists compared. -/
import Derived.Test.YtcecjjjehhjldaaBiC
namespace Go.Proofs.Ytcecjjjehhjldaa
open Go.RowKit
set_option maxHeartbeats 400000
set_option maxRecDepth 100000
set_option linter.unusedVariables false

theorem Try.infoInt : (Try.prog.info? 3).map (fun i => (i.zero, i.size, i.bytes)) = some (some (.int .i64 0), 1, 8) := by kernel_rfl
/-- v is a list of the call's own (behind block B), and holds l. -/
def OwnL (w : World) (B : Nat) (v : Value) (l : List Int) : Prop := w.ownsRow B 3 1 v l.length (l.map (Value.int .i64))
theorem OwnL.below {w w' : World} {B : Nat} {v : Value} {l : List Int} (h : OwnL w B v l) (hb : Below w.heap.size w w') : OwnL w' B v l := by
  obtain ⟨hl, h⟩ := h
  refine ⟨hl, ?_⟩
  rcases h with h | ⟨g, cap, cur, h1, h2, h3, h4⟩
  · exact .inl h
  · refine .inr ⟨g, cap, cur, h1, h2, ?_, h4⟩
    have hg : g < w.heap.size := by
      rw [Array.getElem?_eq_some_iff] at h3
      exact h3.1
    exact (hb.block g hg).trans h3
theorem OwnL.read {w : World} {B : Nat} {v : Value} {l : List Int} (h : OwnL w B v l) : ∃ ao cap, v = .slice ao l.length cap ∧ IntsIn w ao l := by
  have h0 := h
  obtain ⟨hl, h⟩ := h
  rcases h with ⟨h1, h2⟩ | ⟨g, cap, cur, h1, h2, h3, h4⟩
  · exact ⟨none, 0, by rw [h2]; exact h1, fun j hj => absurd hj (by omega)⟩
  · refine ⟨some ⟨g, 0, none⟩, cap, h1, fun j hj => ⟨_, rfl, ?_⟩⟩
    exact World.ownsRow.cells h0 (by rw [h1]; rfl) j _ (by simp [hj])
theorem IntsIn.below {w w' : World} {ao : Option Addr} {l : List Int} (h : IntsIn w ao l) (B : Nat) (hB : ∀ a, ao = some a → a.block < B) (hb : Below B w w') : IntsIn w' ao l := fun j hj => by
  obtain ⟨a, ha, hc⟩ := h j hj
  exact ⟨a, ha, (hb.cell (by unfold Addr.add; split <;> exact hB a ha)).trans hc⟩

def elI (s : Int) (n : Nat) : List Int := elems s.toNat n
theorem elI_hit (s : Int) (k : Nat) (hk : k < 16) (h : hasI s (k : Int) = true) : elI s (k + 1) = elI s k ++ [(k : Int)] := by
  rw [has_bit s k hk] at h
  unfold elI
  rw [show elems s.toNat (k + 1) = elems s.toNat k ++ (if s.toNat.testBit k then [(k : Int)] else []) from rfl, if_pos h]
theorem elI_miss (s : Int) (k : Nat) (hk : k < 16) (h : hasI s (k : Int) = false) : elI s (k + 1) = elI s k := by
  rw [has_bit s k hk] at h
  unfold elI
  rw [show elems s.toNat (k + 1) = elems s.toNat k ++ (if s.toNat.testBit k then [(k : Int)] else []) from rfl, h]
  simp
theorem elI_len (s : Int) (k : Nat) : (elI s k).length ≤ k := elems_len _ _

theorem own_next {B : Nat} {w wr w1 : World} {v v' : Value} {l l' : List Int} {k : Int} {o : Obj} (hl : l' = l ++ [k]) (hB : B ≤ wr.heap.size) (hown : OwnL wr B v l) (hnx : Below B w wr)
    (hown' : w1.ownsRow B 3 1 v' (l.length + 1) (l.map (Value.int .i64) ++ [.int .i64 k])) (hgrow : (wr.alloc o).grownBy w1 v.ownBlock) : OwnL w1 B v' l' ∧ Below B w w1 := by
  refine ⟨?_, (hnx.alloc hB o).grown hgrow (by simp; omega) (fun j hj => (World.ownsRow.lt hown j hj).1)⟩
  subst hl
  unfold OwnL
  simpa using hown'

theorem rAll_any (s : Int) (s0 : 0 ≤ s) (s1 : s ≤ 65535) (w : World) :
    Calls Try.prog 15 #[.int .u16 s] w fun e w' => ∃ v, e = .returned v ∧ OwnL w' w.heap.size v (elI s 16) ∧ Below w.heap.size w w' := by
  obtain ⟨i0, hi, hz0, hz1, hz2⟩ := info_parts Try.infoInt
  go_enter Try.func15, Try.ntmps15
  go_wp2
  go_loopw [3, 4] (fun v i wr => ∃ k : Nat, k ≤ 16 ∧ i = .int .i64 k ∧ OwnL wr w.heap.size v (elI s k) ∧ Below w.heap.size w wr)
    (fun _ i _ => 16 - (intOf i).toNat)
  case atStart => exact ⟨0, Nat.zero_le _, rfl, World.ownsRow_nil _ _ _ _, Below.refl _ _⟩
  case round =>
    obtain ⟨k, hk, rfl, hown, hnx⟩ := hrel
    have hc : k = 16 ∨ k < 16 := by omega
    rcases hc with rfl | hlt
    · go_wp2
      go_ret
      exact ⟨_, rfl, hown, hnx⟩
    · go_wp2_with fail
      refine (rHas_any s (k : Int) s0 s1 (by omega) (by omega) _).mono ?_
      rintro e w' ⟨rfl, rfl⟩
      cases hb : hasI s (k : Int)
      · have HS := Lib.hid (elI_miss s k hlt hb)
        go_wp2
        go_roundw
        case rel => exact ⟨k + 1, by omega, by simp, by rw [HS.out]; exact hown, hnx⟩
        case measure => simp [intOf]; omega
      · have HS := Lib.hid (elI_hit s k hlt hb)
        have hsize := hnx.size
        have hle := elI_len s k
        go_wp2_with (first
          | (at_builtin; refine wpList_append_own _ rfl _ _ 23 rfl w.heap.size 3 i0 (.int .i64 0) 1 8 Try.underlying23 hi hz0 hz1 hz2 rfl (by decide) _ _ _ rfl (World.ownsRow.alloc hown _) ⟨wr.heap.size, 0, none⟩ 1 1 [.int .i64 (k : Int)] rfl rfl ?c1 ?c2 ?c3 ?c4 ?c5 ?_)
          | fail)
        case c1 =>
          intro j u hj
          match j, hj with
          | 0, hj => simp at hj; subst hj; simp [Addr.add]
        case c2 => intro u hu; simp at hu; subst hu; rfl
        case c3 => unfold maxLen; omega
        case c4 => omega
        case c5 => simp; omega
        intro v' w1 hown' hgrow _
        have R := own_next HS.out hsize hown hnx hown' hgrow
        clear hown' hgrow hown hnx
        go_wp2
        go_roundw
        case rel => exact ⟨k + 1, by omega, by simp, R.1, R.2⟩
        case measure => simp [intOf]; omega

theorem All_any (s : Int) (s0 : 0 ≤ s) (s1 : s ≤ 65535) (w : World) :
    Calls Try.prog 17 #[.int .u16 s] w fun e w' => ∃ v, e = .returned v ∧ OwnL w' w.heap.size v (elI s 16) ∧ Below w.heap.size w w' := by
  obtain ⟨i0, hi, hz0, hz1, hz2⟩ := info_parts Try.infoInt
  have hle0 := elI_len s 16
  have hce : lenI s 16 = ((elI s 16).length : Int) := rfl
  have HC := Lib.hid hce
  have hlb := lenI_bd s 16
  clear hce
  go_enter Try.func17, Try.ntmps17
  go_wp2_with fail
  refine (Len_any s s0 s1 _).mono ?_
  rintro e w' ⟨rfl, rfl⟩
  go_wp2_with (first
    | (at_make; refine wpList_make_own _ rfl _ _ 23 rfl w.heap.size 3 i0 (.int .i64 0) 1 Try.underlying23 hi hz0 hz1 .i64 .i64 _ (elI s 16).length rfl rfl HC.out (by rw [hz2]; omega) (by unfold maxLen; omega) (Nat.le_refl _) ?_; intro w0 hown0 hgrow0)
    | fail)
  go_loopw [3, 8] (fun v i wr => ∃ k : Nat, k ≤ 16 ∧ i = .int .i64 k ∧ OwnL wr w.heap.size v (elI s k) ∧ Below w.heap.size w wr)
    (fun _ i _ => 16 - (intOf i).toNat)
  case atStart => exact ⟨0, Nat.zero_le _, rfl, hown0, (Below.refl _ _).grown hgrow0 (Nat.le_refl _) (fun k h => by cases h)⟩
  case round =>
    obtain ⟨k, hk, rfl, hown, hnx⟩ := hrel
    clear hown0 hgrow0 hlb hle0 HC
    have hc : k = 16 ∨ k < 16 := by omega
    rcases hc with rfl | hlt
    · go_wp2
      go_ret
      exact ⟨_, rfl, hown, hnx⟩
    · go_wp2_with fail
      refine (Has_any s (k : Int) s0 s1 (by omega) (by omega) _).mono ?_
      rintro e w' ⟨rfl, rfl⟩
      cases hb : hasI s (k : Int)
      · have HS := Lib.hid (elI_miss s k hlt hb)
        go_wp2
        go_roundw
        case rel => exact ⟨k + 1, by omega, by simp, by rw [HS.out]; exact hown, hnx⟩
        case measure => simp [intOf]; omega
      · have HS := Lib.hid (elI_hit s k hlt hb)
        have hsize := hnx.size
        have hle := elI_len s k
        go_wp2_with (first
          | (at_builtin; refine wpList_append_own _ rfl _ _ 23 rfl w.heap.size 3 i0 (.int .i64 0) 1 8 Try.underlying23 hi hz0 hz1 hz2 rfl (by decide) _ _ _ rfl (World.ownsRow.alloc hown _) ⟨wr.heap.size, 0, none⟩ 1 1 [.int .i64 (k : Int)] rfl rfl ?c1 ?c2 ?c3 ?c4 ?c5 ?_)
          | fail)
        case c1 =>
          intro j u hj
          match j, hj with
          | 0, hj => simp at hj; subst hj; simp [Addr.add]
        case c2 => intro u hu; simp at hu; subst hu; rfl
        case c3 => unfold maxLen; omega
        case c4 => omega
        case c5 => simp; omega
        intro v' w1 hown' hgrow _
        have R := own_next HS.out hsize hown hnx hown' hgrow
        clear hown' hgrow hown hnx
        go_wp2
        go_roundw
        case rel => exact ⟨k + 1, by omega, by simp, R.1, R.2⟩
        case measure => simp [intOf]; omega
end Go.Proofs.Ytcecjjjehhjldaa
