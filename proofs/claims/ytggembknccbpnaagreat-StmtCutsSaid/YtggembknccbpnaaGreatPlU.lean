/- Places behind texts: they rise, and they stay places. No program stands in here. -/
import Derived.Test.YtggembknccbpnaaGreatPlZ
namespace Go.Proofs.YtggembknccbpnaaGreat
open Go
set_option linter.unusedVariables false

/-- Is a ahead of b? -/
def plt (a b : Int × Int) : Prop := a.1 < b.1 ∨ (a.1 = b.1 ∧ a.2 < b.2)
theorem plt_trans {a b c : Int × Int} (h : plt a b) (k : plt b c) : plt a c := by unfold plt at *; omega
theorem plt_ne {a b : Int × Int} (h : plt a b) : a ≠ b := fun e => by subst e; unfold plt at h; omega
theorem step_in (l c : Int) (b : UInt8) (h : 1 ≤ l) (g : 1 ≤ c) : plt (l, c) (stepL l b, stepC c b) ∧ l ≤ stepL l b ∧ stepL l b ≤ l + 1 ∧ 1 ≤ stepC c b ∧ stepC c b ≤ c + 1 := by
  unfold plt stepL stepC
  by_cases hb : b = 10
  · rw [if_pos hb, if_pos hb]; simp; omega
  · rw [if_neg hb, if_neg hb]; simp; omega
theorem go_in : ∀ (s : List UInt8) (l c : Int), 1 ≤ l → 1 ≤ c → l + s.length ≤ 1073741824 → c + s.length ≤ 1073741824 →
    isP (goB l c s).1 (goB l c s).2 = true ∧ l ≤ (goB l c s).1 ∧ (goB l c s).1 ≤ l + s.length ∧ 1 ≤ (goB l c s).2 ∧ (goB l c s).2 ≤ c + s.length ∧ (s ≠ [] → plt (l, c) (goB l c s))
  | [], l, c, h1, h2, h3, h4 => by
    have hp : isP l c = true := (isP_iff l c).2 ⟨h1, by simpa using h3, h2, by simpa using h4⟩
    rw [goB_nil l c hp]
    exact ⟨hp, by simp, by simp, h2, by simp, fun h => absurd rfl h⟩
  | b :: r, l, c, h1, h2, h3, h4 => by
    have e : ((b :: r).length : Int) = r.length + 1 := by simp
    rw [e] at h3 h4
    have hp : isP l c = true := (isP_iff l c).2 ⟨h1, by omega, h2, by omega⟩
    obtain ⟨a1, a2, a3, a4, a5⟩ := step_in l c b h1 h2
    obtain ⟨b1, b2, b3, b4, b5, b6⟩ := go_in r (stepL l b) (stepC c b) (by omega) a4 (by omega) (by omega)
    rw [goB_cons l c b r hp, e]
    refine ⟨b1, by omega, by omega, b4, by omega, fun _ => ?_⟩
    by_cases hr : r = []
    · subst hr
      have hq : isP (stepL l b) (stepC c b) = true := (isP_iff _ _).2 ⟨by omega, by omega, a4, by omega⟩
      rw [goB_nil _ _ hq]
      exact a1
    · exact plt_trans a1 (b6 hr)
theorem go_first (s : List UInt8) (hs : s.length ≤ 1048576) (k : Nat) : isP (goB 1 1 (s.take k)).1 (goB 1 1 (s.take k)).2 = true ∧ 1 ≤ (goB 1 1 (s.take k)).1 ∧ (goB 1 1 (s.take k)).1 ≤ 1048577 ∧ 1 ≤ (goB 1 1 (s.take k)).2 ∧ (goB 1 1 (s.take k)).2 ≤ 1048577 := by
  have hl : (s.take k).length ≤ s.length := by rw [List.length_take]; omega
  obtain ⟨b1, b2, b3, b4, b5, b6⟩ := go_in (s.take k) 1 1 (by omega) (by omega) (by omega) (by omega)
  exact ⟨b1, b2, by omega, b4, by omega⟩
theorem go_rise (s : List UInt8) (hs : s.length ≤ 1048576) (k j : Nat) (hk : k < j) (hj : j ≤ s.length) : plt (goB 1 1 (s.take k)) (goB 1 1 (s.take j)) := by
  obtain ⟨a1, a2, a3, a4, a5⟩ := go_first s hs k
  have e : s.take j = s.take k ++ (s.take j).drop k := by
    have := List.take_append_drop k (s.take j)
    rw [List.take_take, show min k j = k by omega] at this
    exact this.symm
  rw [e, goB_append]
  have hl : ((s.take j).drop k).length = j - k := by rw [List.length_drop, List.length_take]; omega
  obtain ⟨b1, b2, b3, b4, b5, b6⟩ := go_in ((s.take j).drop k) (goB 1 1 (s.take k)).1 (goB 1 1 (s.take k)).2 a2 a4 (by omega) (by omega)
  refine b6 fun h => ?_
  rw [h] at hl
  simp at hl
  omega
/-- Where a place is, is one number. -/
theorem InIs_one (s : List UInt8) (l c r t : Int) (h : InIs s l c r) (k : InIs s l c t) : r = t := by
  rcases h with ⟨i, hi, rfl, h1, h2⟩ | ⟨rfl, h1⟩
  · rcases k with ⟨j, hj, rfl, k1, k2⟩ | ⟨rfl, k1⟩
    · rcases Nat.lt_trichotomy i j with g | g | g
      · exact absurd h1 (k2 i g)
      · rw [g]
      · exact absurd k1 (h2 j g)
    · exact absurd h1 (k1 i hi)
  · rcases k with ⟨j, hj, rfl, k1, k2⟩ | ⟨rfl, k1⟩
    · exact absurd k1 (h1 j hj)
    · rfl
/-- The bytes ahead of a place lead back. -/
theorem InIs_back (s : List UInt8) (hs : s.length ≤ 1048576) (k : Nat) (hk : k ≤ s.length) : InIs s (goB 1 1 (s.take k)).1 (goB 1 1 (s.take k)).2 (k : Int) :=
  .inl ⟨k, hk, rfl, rfl, fun j hj => plt_ne (go_rise s hs j k hj hk)⟩
end Go.Proofs.YtggembknccbpnaaGreat
