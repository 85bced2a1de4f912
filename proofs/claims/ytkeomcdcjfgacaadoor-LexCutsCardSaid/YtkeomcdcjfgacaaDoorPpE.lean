/- Package place, walked: In. -/
import Derived.Test.YtkeomcdcjfgacaaDoorPpC
import Derived.Test.YtkeomcdcjfgacaaDoorPlU
namespace Go.Proofs.YtkeomcdcjfgacaaDoor
open Go.RowKit
set_option maxHeartbeats 400000
set_option maxRecDepth 100000
set_option linter.unusedVariables false

/-- What In says of a place that stands behind r bytes (-1: nowhere). -/
def inI (r : Int) : Int := if 0 ≤ r then r else 0
def inB (r : Int) : Bool := decide (0 ≤ r)
def InAll (s : List UInt8) (l c r : Int) : Prop := (isP l c = true → InIs s l c r) ∧ (isP l c = false → r = -1)

theorem In_any (l c : Int) (s : ByteArray) (hs : s.size ≤ 1048576) (w : World) :
    Calls Tryd.prog 12 #[.string s, posV l c] w fun e w' => ∃ r, e = .returned (.tuple #[.int .i64 (inI r), .bool (inB r)]) ∧ InAll s.data.toList l c r ∧ w' = w := by
  have HBf := Before_any l c
  have QE := fun l1 c1 => eql_pos (P := Tryd.prog) l1 c1 l c
  obtain ⟨x0, y0, e0⟩ := posV_cx l c
  simp only [e0] at HBf QE ⊢
  clear e0
  go_enter Tryd.func12, Tryd.ntmps12
  go_wp2_with fail
  refine (Begin_any _).mono ?_
  rintro e w1 ⟨rfl, rfl⟩
  go_wp2_with fail
  have hlen : s.data.toList.length = s.size := by rw [Array.length_toList]; rfl
  have hl2 : s.data.toList.length ≤ 1048576 := by omega
  go_loop [6, 7] (fun p i => ∃ (k : Nat) (l1 c1 : Int), k ≤ s.size ∧ p = posV l1 c1 ∧ i = .int .i64 k ∧ goB 1 1 (s.data.toList.take k) = (l1, c1) ∧ (isP l c = true → ∀ j, j < k → goB 1 1 (s.data.toList.take j) ≠ (l, c)))
    (fun p i => s.size - (intOf i).toNat)
  case atStart => exact ⟨0, 1, 1, Nat.zero_le _, rfl, rfl, rfl, fun _ j hj => absurd hj (by omega)⟩
  case round =>
    obtain ⟨k, l1, c1, hk, rfl, rfl, hgo, hno⟩ := hrel
    have HF := go_first s.data.toList hl2 k
    rw [hgo] at HF
    obtain ⟨hp1, g1, g2, g3, g4⟩ := HF
    have HG := Lib.hid hgo
    have HN := Lib.hid hno
    have HL := Lib.hid hlen
    clear hgo hno hlen
    have qn := fun t w => neq_none (P := Tryd.prog) l1 c1 t w
    have qe := QE l1 c1
    have hbf := HBf l1 c1
    rw [hp1] at qn
    cases hb : pBef l c l1 c1
    · cases hq : pEq l1 c1 l c
      · have HK : Hid (isP l c = true → ∀ j, j < k + 1 → goB 1 1 (s.data.toList.take j) ≠ (l, c)) := Lib.hid (by
          intro hp j hj
          by_cases hjk : j = k
          · subst hjk
            rw [HG.out]
            intro e
            injection e with e1 e2
            subst e1; subst e2
            rw [show pEq l1 c1 l1 c1 = true by unfold pEq; simp] at hq
            cases hq
          · exact HN.out hp j (by omega))
        by_cases hlt : k < s.size
        · have hke : ((k : Int) == (s.size : Int)) = false := beq_eq_false_iff_ne.2 (by omega)
          have HX := fun b => next_any l1 c1 hp1 b
          have HD : Hid (goB 1 1 (s.data.toList.take (k + 1)) = (stepL l1 s[k], stepC c1 s[k])) := Lib.hid (by
            rw [take_next1 s k hlt, goB_append, HG.out, extract_one s k hlt]
            show goB l1 c1 [s[k]] = _
            rw [goB_cons l1 c1 _ _ hp1, goB_nil]
            obtain ⟨a1, a2, a3, a4, a5⟩ := step_in l1 c1 s[k] g1 g3
            exact (isP_iff _ _).2 ⟨by omega, by omega, by omega, by omega⟩)
          rw [hb] at hbf
          rw [hq] at qe
          obtain ⟨x, y, e1⟩ := posV_cx l1 c1
          rw [e1] at qn qe hbf ⊢
          simp only [e1] at HX
          clear e1 HG HN QE HBf hb hq hp1
          obtain ⟨b, hbb⟩ : ∃ b, s[k] = b := ⟨_, rfl⟩
          rw [hbb] at HD
          go_wp2_with fail
          refine (hbf _).mono ?_
          rintro e w2 ⟨rfl, rfl⟩
          go_wp2_with fail
          refine (HX b _).mono ?_
          rintro e w3 ⟨rfl, rfl⟩
          go_wp2_with fail
          go_round
          case rel => exact ⟨k + 1, stepL l1 b, stepC c1 b, by omega, rfl, by simp, HD.out, HK.out⟩
          case measure => simp [intOf]; omega
        · have hke : k = s.size := by omega
          subst hke
          have HR : Hid (InAll s.data.toList l c (-1)) := Lib.hid ⟨fun hp => .inr ⟨rfl, fun j hj => HK.out hp j (by have := HL.out; omega)⟩, fun _ => rfl⟩
          rw [hb] at hbf
          rw [hq] at qe
          obtain ⟨x, y, e1⟩ := posV_cx l1 c1
          rw [e1] at qn qe hbf ⊢
          clear e1 HG HN QE HBf hb hq hp1 HK
          go_wp2_with fail
          refine (hbf _).mono ?_
          rintro e w2 ⟨rfl, rfl⟩
          go_wp2_with fail
          go_ret2
          exact ⟨-1, rfl, HR.out, rfl⟩
      · have HR : Hid (InAll s.data.toList l c (k : Int)) := Lib.hid (by
          have hlc : isP l c = true ∧ l1 = l ∧ c1 = c := by
            unfold pEq at hq
            rw [hp1] at hq
            simp at hq
            exact ⟨hq.1, hq.2.1, hq.2.2⟩
          obtain ⟨q1, rfl, rfl⟩ := hlc
          exact ⟨fun hp => .inl ⟨k, by have := HL.out; omega, rfl, HG.out, HN.out hp⟩, fun hp => by rw [q1] at hp; cases hp⟩)
        have HI : Hid (inI (k : Int) = k ∧ inB (k : Int) = true) := Lib.hid (by unfold inI inB; simp)
        rw [hb] at hbf
        rw [hq] at qe
        obtain ⟨x, y, e1⟩ := posV_cx l1 c1
        rw [e1] at qn qe hbf ⊢
        clear e1 HG HN QE HBf hb hq hp1
        go_wp2_with fail
        refine (hbf _).mono ?_
        rintro e w2 ⟨rfl, rfl⟩
        go_wp2_with fail
        go_ret2
        exact ⟨k, by rw [HI.out.1, HI.out.2]; rfl, HR.out, rfl⟩
    · have HR : Hid (InAll s.data.toList l c (-1)) := Lib.hid (by
        have hpp : isP l c = true ∧ plt (l, c) (l1, c1) := by
          unfold pBef at hb
          rw [hp1] at hb
          simp at hb
          refine ⟨hb.1, ?_⟩
          unfold plt
          rcases hb.2 with h | ⟨h, h2⟩
          · exact .inl h
          · exact .inr ⟨h, h2⟩
        refine ⟨fun hp => .inr ⟨rfl, fun j hj => ?_⟩, fun hp => absurd (hpp.1.symm.trans hp) (by decide)⟩
        rcases Nat.lt_trichotomy j k with h | h | h
        · exact HN.out hp j h
        · subst h
          rw [HG.out]
          exact (plt_ne hpp.2).symm
        · have := go_rise s.data.toList hl2 k j h hj
          rw [HG.out] at this
          exact (plt_ne (plt_trans hpp.2 this)).symm)
      rw [hb] at hbf
      obtain ⟨x, y, e1⟩ := posV_cx l1 c1
      rw [e1] at qn qe hbf ⊢
      clear e1 HG HN QE HBf hb hp1 qe
      go_wp2_with fail
      refine (hbf _).mono ?_
      rintro e w2 ⟨rfl, rfl⟩
      go_wp2_with fail
      go_ret2
      exact ⟨-1, rfl, HR.out, rfl⟩
end Go.Proofs.YtkeomcdcjfgacaaDoor
